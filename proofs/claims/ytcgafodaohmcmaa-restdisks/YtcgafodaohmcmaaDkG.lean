/-
  What Read of package disk answers, for every disk.
-/
import Derived.Test.YtcgafodaohmcmaaDkF
namespace Go.Proofs.Ytcgafodaohmcmaa
open Go.ChangeShapes Go.WideShapes Go.ChangeAt Go.RowKit Go.Shelf
set_option linter.unusedVariables false
set_option linter.unusedSimpArgs false
set_option maxRecDepth 100000
attribute [local go_sem] Oper.semAt_some

/-- the boxes of Read -/
structure Rb (b no : Nat) (p q : Value) (W : World) : Prop where
  d : Blk W b #[p, q] 25
  n : Blk W (b + 1) #[.int .i64 (no : Int)] 3
  s : Blk W (b + 1 + 1) #[.string ⟨#[]⟩] 9
  e : Blk W (b + 1 + 1 + 1) #[.int .i64 0] 29
theorem blk_own {A B : World} {row : Option Nat} {b : Nat} {arr : Array Value} {T : TypeId} (h : Blk A b arr T) (hg : A.grownBy B row) (hr : ∀ r, row = some r → ∃ o : Obj, A.heap[r]? = some o ∧ o.isCells = false) : Blk B b arr T := by
  refine h.grown hg ?_
  intro e
  obtain ⟨o, ho, hc⟩ := hr b e
  have := ho.symm.trans h
  simp only [Option.some.injEq] at this
  subst this
  cases hc
theorem rb_own {β : Type} (b no : Nat) (p q : Value) : Own (fun (_ : β) W => Rb b no p q W) := fun s A B row hs hg hr =>
  ⟨blk_own hs.d hg hr, blk_own hs.n hg hr, blk_own hs.s hg hr, blk_own hs.e hg hr⟩
theorem Rb.fr {b no : Nat} {p q : Value} {W W' : World} (h : Rb b no p q W) (f : Fr W W') : Rb b no p q W' := ⟨h.d.fr f, h.n.fr f, h.s.fr f, h.e.fr f⟩

/-- between two rounds of Read -/
structure RI (w W0 : World) (no : Nat) (p q : Value) (pre : List Bk) (W : World) : Prop where
  ne : ∀ x ∈ pre, x.2.no ≠ (no : Int)
  rb : Rb w.heap.size no p q W
  below : Below w.heap.size w W
  size : W0.heap.size ≤ W.heap.size
/-- a round of Read has left -/
structure RX (w : World) (no : Nat) (c : Code) (pre : List Bk) (W : World) : Prop where
  ret : c = .ret
  ex : ∃ ini last, pre = ini ++ [last] ∧ (∀ x ∈ ini, x.2.no ≠ (no : Int)) ∧ last.2.no = (no : Int) ∧ Blk W (w.heap.size + 1 + 1) #[.string last.2.t] 9 ∧ Blk W (w.heap.size + 1 + 1 + 1) #[.int .i64 0] 29
  below : Below w.heap.size w W
theorem two_set {W : World} {a b : Nat} {x y u v : Value} {T T' : TypeId} (hs : Blk W a #[x] T) (he : Blk W b #[y] T') (hab : a ≠ b) :
    Blk ((W.setCell ⟨a, 0, none⟩ u).setCell ⟨b, 0, none⟩ v) a #[u] T ∧ Blk ((W.setCell ⟨a, 0, none⟩ u).setCell ⟨b, 0, none⟩ v) b #[v] T' := by
  constructor
  · have := (hs.set 0 u).other (b' := b) (Ne.symm hab) 0 v
    simpa using this
  · have := (he.other (b' := a) hab 0 u).set 0 v
    simpa using this
theorem blk_put {W : World} {D b : Nat} {arr : Array Value} {T : TypeId} (h : Blk W b arr T) (hK : W.heap[D]? = some (.deferred (some []))) (o : Obj) : Blk (W.putObj D o) b arr T :=
  blk_own h (grownBy_putObj' W D o) (fun r e => by cases e; exact ⟨_, hK, rfl⟩)
theorem two_keep {W : World} {D : Nat} (hK : W.heap[D]? = some (.deferred (some []))) (p q : Addr) (u v : Value) : ((W.setCell p u).setCell q v).heap[D]? = some (.deferred (some [])) :=
  (KeepsOthers.setCell _ q v).same D _ ((KeepsOthers.setCell W p u).same D _ hK rfl) rfl

set_option maxHeartbeats 400000 in
theorem read_in (n : Nat) (hn : 3 ≤ n) (p q : Value) (d : JN.D) (no : Nat) (hno : no < 32) (hok : JN.OkD d) (w : World) (hr : IsD w p q d) :
    CallsIn Fence.wide n Try.prog 17 #[.agg #[p, q], .int .i64 no] w fun e w' => e = .returned (.tuple #[.string (JN.land (JN.fn d.pg) (d.wt.map JN.wn) JN.all no), .int .i64 0]) ∧ Fr w w' := by
  have h1 : 1 ≤ n := by omega
  have c := fun W (f : Fr w W) => check_any p q d W (hr.fr f) (by have := hok.len; omega)
  rw [(JN.dchk_ok d).2 hok] at c
  have cp := fun W => isPlace_any (no : Int) W
  have hp : plc (no : Int) = true := by unfold plc; simp; omega
  rw [hp] at cp
  obtain ⟨pg, wt⟩ := d
  simp only at *
  obtain ⟨aq, kq, rfl, _, _⟩ := hr.2
  have cb := fun W => backward_any (.slice aq wt.length kq) W ⟨_, _, _, rfl⟩
  have HR := hideP hr
  clear hr
  refine callsIn_of_wp_marks Try.func17 rfl trivial ?_ rfl
  simp only [Try.ntmps17, List.size_toArray, List.length_cons, List.length_nil, Nat.reduceAdd, Nat.reduceSub, Array.replicate_succ, Array.replicate_zero, List.push_toArray, List.append_toArray, List.nil_append, List.cons_append]
  gi_wp2_with fail
  refine ⟨trivial, ?_⟩
  refine (callsIn_wide.2 (c _ ((((Fr.refl w).alloc _).alloc _).alloc _ |>.alloc _))).mono ?_
  rintro _ w1 ⟨rfl, f1⟩
  have bd : Blk w1 w.heap.size #[p, .slice aq wt.length kq] 25 := ((((Blk.new w _ _).old _).old _).old _).fr f1
  have bn : Blk w1 (w.heap.size + 1) #[.int .i64 (no : Int)] 3 := by
    have := (((Blk.new (w.alloc (.cells #[p, .slice aq wt.length kq] 25)) #[.int .i64 (no : Int)] 3).old _).old _).fr f1
    rwa [World.size_alloc] at this
  have bs : Blk w1 (w.heap.size + 1 + 1) #[.string ⟨#[]⟩] 9 := by
    have := ((Blk.new ((w.alloc (.cells #[p, .slice aq wt.length kq] 25)).alloc (.cells #[.int .i64 (no : Int)] 3)) #[.string ⟨#[]⟩] 9).old _).fr f1
    rwa [World.size_alloc, World.size_alloc] at this
  have be : Blk w1 (w.heap.size + 1 + 1 + 1) #[.int .i64 0] 29 := by
    have := (Blk.new (((w.alloc (.cells #[p, .slice aq wt.length kq] 25)).alloc (.cells #[.int .i64 (no : Int)] 3)).alloc (.cells #[.string ⟨#[]⟩] 9)) #[.int .i64 0] 29).fr f1
    rwa [World.size_alloc, World.size_alloc, World.size_alloc] at this
  have ff : Fr w w1 := (((((Fr.refl w).alloc _).alloc _).alloc _).alloc _).trans f1
  have d0 := bd.cell 0 (u := p) rfl
  have d1 := bd.cell 1 (u := .slice aq wt.length kq) rfl
  have n0 := bn.cell 0 (u := .int .i64 (no : Int)) rfl
  have HD := hideP bd
  have HN := hideP bn
  have HS := hideP bs
  have HE := hideP be
  have HF := hideP ff
  clear bd bn bs be ff f1 c
  gi_wp2_with fail
  refine ⟨trivial, ?_⟩
  refine (callsIn_wide.2 (cp _)).mono ?_
  rintro _ w1 ⟨rfl, rfl⟩
  gi_wp2_with fail
  refine ⟨trivial, ?_⟩
  refine (callsIn_wide.2 (cb _)).mono ?_
  rintro _ w2 ⟨rfl, hw2⟩
  subst hw2
  gi_wp2_with fail
  have rb1 : Rb w.heap.size no p (.slice aq wt.length kq) w1 := ⟨HD.out, HN.out, HS.out, HE.out⟩
  obtain ⟨W0, hW0⟩ : ∃ W0, w1.alloc (.cells #[.slice aq wt.length kq] 23) = W0 := ⟨_, rfl⟩
  have f0 : Fr w1 W0 := by rw [← hW0]; exact (Fr.refl w1).alloc _
  have bb : Blk W0 w1.heap.size #[.slice aq wt.length kq] 23 := by rw [← hW0]; exact Blk.new w1 _ _
  have rb0 := rb1.fr f0
  have hB0 : Below w.heap.size w W0 := HF.out.trans f0
  rw [hW0]
  have hsz : w.heap.size + 1 + 1 + 1 < W0.heap.size := rb0.e.lt
  have h48 := hok.many
  simp only at h48
  have hE : ∀ x ∈ wt, 0 ≤ x.no := fun x hx => (hok.each x hx).1.1
  have HEn := hideP hE
  have hRp := hideP (HR.out.1)
  have hRq := hideP ((HR.out.2.fr HF.out).fr f0)
  clear HD HN HS HE d0 d1 n0 hW0 hE hp cp cb rb1 hok HR
  refine wpIn_rangeFunc_ownH rfl h1 (gf := 26) (lb := #[.pointer (some ⟨w1.heap.size, 0, none⟩)]) rfl trivial (enters_of Try.func26 (by kernel_rfl) rfl)
    (back_stops (n - 1) (by omega) w1.heap.size (.slice aq wt.length kq) wt h48 W0 bb.lt (bb.cell 0 rfl) hRq.out) belowK_t (belowK_b (w := W0) (Nat.le_refl _)) (Below.refl _ _) (fun _ => rfl)
    (RI w W0 no p (.slice aq wt.length kq)) (RX w no)
    (fun s A B row hs hg hr => ⟨hs.ne, rb_own (β := Unit) _ _ _ _ () A B row hs.rb hg (fun r e => (hr r e).2), hs.below.grown hg hs.below.size (fun k e => by have := (hr k e).1; omega), Nat.le_trans hs.size hg.size⟩)
    (fun c s A B row hs hg hr => ⟨hs.ret, by obtain ⟨ini, last, e1, e2, e3, e4, e5⟩ := hs.ex; exact ⟨ini, last, e1, e2, e3, blk_own e4 hg (fun r e => (hr r e).2), blk_own e5 hg (fun r e => (hr r e).2)⟩, hs.below.grown hg hs.below.size (fun k e => by have := (hr k e).1; omega)⟩)
    ⟨by simp, rb0, hB0, Nat.le_refl _⟩
    (fun x a' W => ∃ Bx, Blk W Bx #[.int .i64 x.2.no, .string x.2.t] 27 ∧ a' = { tmps := #[.agg #[p, .slice aq wt.length kq], .int .i64 (no : Int), .pointer (some ⟨w.heap.size, 0, none⟩), .pointer (some ⟨w.heap.size + 1, 0, none⟩), .pointer (some ⟨w.heap.size + 1 + 1, 0, none⟩), .pointer (some ⟨w.heap.size + 1 + 1 + 1, 0, none⟩), .int .i64 0, undef, .pointer (some ⟨Bx, 0, none⟩), .agg #[p, .slice aq wt.length kq], .int .i64 0, .int .i64 0, .bool false, undef, .int .i64 (no : Int), .bool true, .bool false, .pointer (some ⟨w.heap.size, 1, none⟩), .slice aq wt.length kq, .func (.func 26) #[] #[.pointer (some ⟨w1.heap.size, 0, none⟩)], .int .i64 (x.1 : Int), .agg #[.int .i64 x.2.no, .string x.2.t], undef, undef, undef, undef, undef, undef, undef, undef, undef, undef, undef, undef, undef, undef, undef, undef], defers := [] })
    (fun x a' _ X Y row hs hg hr => by obtain ⟨Bx, e2, e3⟩ := hs; exact ⟨Bx, blk_own e2 hg (fun r e => (hr r e).2), e3⟩)
    ?assign ?body ?done ?stop
  case assign =>
    rintro l pre ⟨x1, x2, x3⟩ W K hI hK
    simp only [bkV]
    gi_wp2
    exact hK _ _ ((KeepsOthers.alloc _ _).from _) ((Below.refl _ W).alloc hI.size _) ⟨hI.ne, hI.rb.fr ((Fr.refl W).alloc _), hI.below.alloc hI.below.size _, by have := hI.size; simp; omega⟩ ⟨W.heap.size, Blk.new W _ _, rfl⟩
  case body =>
    rintro l pre ⟨x1, x2, x3⟩ a' W hl _ hI ⟨Bx, bX, rfl⟩ hlt
    obtain ⟨c0, c1, _, _⟩ := bX.two
    have n0 := hI.rb.n.cell 0 (u := .int .i64 (no : Int)) rfl
    have s0 := hI.rb.s.cell 0 (u := .string ⟨#[]⟩) rfl
    have e0 := hI.rb.e.cell 0 (u := .int .i64 0) rfl
    have s1 := hI.rb.s.frozen 0
    have e1 := hI.rb.e.frozen 0
    clear bX
    by_cases hx : x2 = (no : Int)
    · subst hx
      gi_wp2
      obtain ⟨t1, t2⟩ := two_set (u := .string x3) (v := .int .i64 0) hI.rb.s hI.rb.e (by omega)
      exact ⟨((KeepsOthers.setCell W _ _).trans (KeepsOthers.setCell _ _ _)).from _, rfl, ⟨pre, _, rfl, hI.ne, rfl, t1, t2⟩, (Fr.setCell (a := w) hI.below _ 0 _ (by omega)).setCell _ 0 _ (by omega)⟩
    · have hx' : (x2 == (no : Int)) = false := by simpa using hx
      gi_wp2
      exact ⟨KeepsFrom.refl _ _, Below.refl _ _, fun y hy => (List.mem_append.1 hy).elim (hI.ne y) (fun e => by simp at e; subst e; exact hx), hI.rb, hI.below, hI.size⟩
  case done =>
    rintro D ys W hD rfl hI hK
    have HY : Hid (JN.land (JN.fn pg) (wt.map JN.wn) JN.all no = JN.fn pg no) := by
      unfold Hid
      rw [JN.land_fnd', JN.fnd_none]
      · rfl
      · intro y hy
        have hm : y ∈ (upto wt wt.length).map Prod.snd := by rw [upto_snd wt _ (Nat.le_refl _), List.take_of_length_le (by simp)]; exact hy
        obtain ⟨z, hz, rfl⟩ := List.mem_map.1 hm
        have h1 := hI.ne z hz
        have h2 := HEn.out z.2 (List.mem_reverse.1 hy)
        omega
    have d0 := hI.rb.d.cell 0 (u := p) rfl
    have n0 := hI.rb.n.cell 0 (u := .int .i64 (no : Int)) rfl
    have s0 := hI.rb.s.cell 0 (u := .string ⟨#[]⟩) rfl
    have e0 := hI.rb.e.cell 0 (u := .int .i64 0) rfl
    have s1 := hI.rb.s.frozen 0
    have e1 := hI.rb.e.frozen 0
    obtain ⟨ap, kp, rfl, _, hpc⟩ := hRp.out
    have HK := hideP hK
    have HI := hideP hI
    have hw : ∀ u, Fr w ((W.setCell ⟨w.heap.size + 1 + 1, 0, none⟩ u).setCell ⟨w.heap.size + 1 + 1 + 1, 0, none⟩ (.int .i64 0)) := fun u => (Fr.setCell (a := w) hI.below _ 0 _ (by omega)).setCell _ 0 _ (by omega)
    have HW := hideP hw
    clear hK hI hw
    by_cases hlt : no < pg.length
    · obtain ⟨b, o, rfl, hb, hc⟩ : ∃ b o, ap = some ⟨b, o, none⟩ ∧ b < w.heap.size ∧ At cdP w b o pg := by
        rcases hpc with h | h
        · subst h; simp at hlt
        · exact h
      have hltZ : (no : Int) < (pg.length : Int) := by omega
      have c0 : W.cell? ⟨b, o + no, none⟩ = some (.string pg[no]) := (HI.out.below.cell (p := ⟨b, o + no, none⟩) hb).trans (hc.pg no hlt)
      have HV : Hid (JN.fn pg no = pg[no]) := by unfold Hid; rw [JN.fn, List.getD_eq_getElem?_getD, List.getElem?_eq_getElem hlt]; rfl
      generalize pg[no] = t at c0 HV
      clear hc hpc hRq hRp rb0
      gi_wp2
      have hK' := two_keep HK.out ⟨w.heap.size + 1 + 1, 0, none⟩ ⟨w.heap.size + 1 + 1 + 1, 0, none⟩ (.string t) (.int .i64 0)
      refine ⟨by simp, .inl ⟨_, _, rfl, run_takeDeferred hK', ?_⟩⟩
      obtain ⟨t1, t2⟩ := two_set (u := .string t) (v := .int .i64 0) HI.out.rb.s HI.out.rb.e (by omega)
      have q1 := (blk_put t1 hK' (.deferred none)).cell 0 (u := .string t) rfl
      have q2 := (blk_put t2 hK' (.deferred none)).cell 0 (u := .int .i64 0) rfl
      refine ⟨.tuple #[.string t, .int .i64 0], ?_, ⟨by rw [HY.out, HV.out], Below.trans (HW.out _) (belowK_b (w := w) (Nat.le_refl _) _ D _ _ (by omega) hK' rfl rfl)⟩⟩
      simp [results, Try.results17, go_sem, q1, q2]
    · have hltZ : ¬ (no : Int) < (pg.length : Int) := by omega
      clear hpc hRq hRp rb0
      have HV : Hid (JN.fn pg no = ⟨#[]⟩) := by unfold Hid; rw [JN.fn, List.getD_eq_getElem?_getD, List.getElem?_eq_none (by omega)]; rfl
      gi_wp2
      have hK' := two_keep HK.out ⟨w.heap.size + 1 + 1, 0, none⟩ ⟨w.heap.size + 1 + 1 + 1, 0, none⟩ (.string ⟨#[]⟩) (.int .i64 0)
      refine ⟨by simp, .inl ⟨_, _, rfl, run_takeDeferred hK', ?_⟩⟩
      obtain ⟨t1, t2⟩ := two_set (u := .string ⟨#[]⟩) (v := .int .i64 0) HI.out.rb.s HI.out.rb.e (by omega)
      have q1 := (blk_put t1 hK' (.deferred none)).cell 0 (u := .string ⟨#[]⟩) rfl
      have q2 := (blk_put t2 hK' (.deferred none)).cell 0 (u := .int .i64 0) rfl
      refine ⟨.tuple #[.string ⟨#[]⟩, .int .i64 0], ?_, ⟨by rw [HY.out, HV.out], Below.trans (HW.out _) (belowK_b (w := w) (Nat.le_refl _) _ D _ _ (by omega) hK' rfl rfl)⟩⟩
      simp [results, Try.results17, go_sem, q1, q2]
  case stop =>
    rintro D c pre W hD ⟨k, hk, rfl⟩ hX hK
    obtain rfl := hX.ret
    obtain ⟨ini, last, e1, e2, e3, c4, c5⟩ := hX.ex
    have hF := hX.below
    have HY : Hid (JN.land (JN.fn pg) (wt.map JN.wn) JN.all no = last.2.t) := by
      unfold Hid
      have hs := upto_snd wt k hk
      rw [e1, List.map_append] at hs
      have hw : wt.reverse = ini.map Prod.snd ++ last.2 :: wt.reverse.drop k := by
        have h0 := (List.take_append_drop k wt.reverse).symm
        rw [← hs] at h0
        exact h0.trans (by simp)
      rw [JN.land_fnd', hw, JN.fnd_pre _ _ _ _ (by rw [e3]; rfl)]
      · rfl
      · intro y hy
        obtain ⟨z, hz, rfl⟩ := List.mem_map.1 hy
        have h1 := e2 z hz
        have h2 : z.2 ∈ wt := by
          rw [← List.mem_reverse, hw]
          exact List.mem_append.2 (.inl (List.mem_map_of_mem hz))
        have h3 := HEn.out _ h2
        omega
    clear e1 e2 e3 hX
    gi_wp2
    refine ⟨by simp, .inl ⟨_, _, rfl, run_takeDeferred hK, ?_⟩⟩
    have q1 := (blk_put c4 hK (.deferred none)).cell 0 (u := .string last.2.t) rfl
    have q2 := (blk_put c5 hK (.deferred none)).cell 0 (u := .int .i64 0) rfl
    refine ⟨.tuple #[.string last.2.t, .int .i64 0], ?_, ⟨by rw [HY.out], Below.trans hF (belowK_b (w := w) (Nat.le_refl _) _ D _ _ (by omega) hK rfl rfl)⟩⟩
    simp [results, Try.results17, go_sem, q1, q2]

theorem read_eq (d : JN.D) (n : Int) : JN.readD d n = if JN.dchk d = 0 then if plc n = true then (JN.land (JN.fn d.pg) (d.wt.map JN.wn) JN.all n.toNat, 0) else (JN.bl, 3) else (JN.bl, JN.dchk d) := by
  unfold JN.readD plc
  by_cases h : n < 0 ∨ 31 < n
  · have : decide (0 ≤ n ∧ n < 32) = false := by rw [decide_eq_false_iff_not]; omega
    simp only [h, this]; simp
  · have : decide (0 ≤ n ∧ n < 32) = true := by rw [decide_eq_true_eq]; omega
    simp only [h, this]; simp
set_option maxHeartbeats 1000000 in
theorem read_any (p q : Value) (d : JN.D) (no : Int) (w : World) (hr : IsD w p q d) (hb1 : d.pg.length ≤ 9223372036854775806) :
    Calls Try.prog 17 #[.agg #[p, q], .int .i64 no] w fun e w' => e = .returned (.tuple #[.string (JN.readD d no).1, .int .i64 (JN.readD d no).2]) ∧ Fr w w' := by
  have hE := read_eq d no
  by_cases h0 : JN.dchk d = 0
  · rw [if_pos h0] at hE
    cases hp : plc no with
    | true =>
      rw [hp] at hE
      rw [hE]
      obtain ⟨n, rfl⟩ := Int.eq_ofNat_of_zero_le (show 0 ≤ no by unfold plc at hp; simp at hp; omega)
      exact callsIn_wide.1 (read_in 3 (Nat.le_refl _) p q d n (by unfold plc at hp; simp at hp; omega) ((JN.dchk_ok d).1 h0) w hr)
    | false =>
      rw [hp] at hE
      rw [hE]
      have c := fun W (f : Fr w W) => check_any p q d W (hr.fr f) hb1
      rw [h0] at c
      have cp := fun W => isPlace_any no W
      rw [hp] at cp
      clear hE hp h0 hr
      refine (callsIn_wide (n := 3)).1 ?_
      refine callsIn_of_wp_marks Try.func17 rfl trivial ?_ rfl
      simp only [Try.ntmps17, List.size_toArray, List.length_cons, List.length_nil, Nat.reduceAdd, Nat.reduceSub, Array.replicate_succ, Array.replicate_zero, List.push_toArray, List.append_toArray, List.nil_append, List.cons_append]
      gi_wp2_with fail
      refine ⟨trivial, ?_⟩
      refine (callsIn_wide.2 (c _ ((((Fr.refl w).alloc _).alloc _).alloc _ |>.alloc _))).mono ?_
      rintro _ w1 ⟨rfl, f1⟩
      have bs : Blk w1 (w.heap.size + 1 + 1) #[.string ⟨#[]⟩] 9 := by
        have := ((Blk.new ((w.alloc (.cells #[p, q] 25)).alloc (.cells #[.int .i64 no] 3)) #[.string ⟨#[]⟩] 9).old _).fr f1
        rwa [World.size_alloc, World.size_alloc] at this
      have be : Blk w1 (w.heap.size + 1 + 1 + 1) #[.int .i64 0] 29 := by
        have := (Blk.new (((w.alloc (.cells #[p, q] 25)).alloc (.cells #[.int .i64 no] 3)).alloc (.cells #[.string ⟨#[]⟩] 9)) #[.int .i64 0] 29).fr f1
        rwa [World.size_alloc, World.size_alloc, World.size_alloc] at this
      have bn : Blk w1 (w.heap.size + 1) #[.int .i64 no] 3 := by
        have := (((Blk.new (w.alloc (.cells #[p, q] 25)) #[.int .i64 no] 3).old _).old _).fr f1
        rwa [World.size_alloc] at this
      have ff : Fr w w1 := (((((Fr.refl w).alloc _).alloc _).alloc _).alloc _).trans f1
      have n0 := bn.cell 0 (u := .int .i64 no) rfl
      have s0 := bs.cell 0 (u := .string ⟨#[]⟩) rfl
      have e0 := be.cell 0 (u := .int .i64 0) rfl
      have s1 := bs.frozen 0
      have e1 := be.frozen 0
      have HS := hideP bs
      have HE := hideP be
      have HF := hideP ff
      clear bn bs be ff f1 c
      gi_wp2_with fail
      refine ⟨trivial, ?_⟩
      refine (callsIn_wide.2 (cp _)).mono ?_
      rintro _ w1 ⟨rfl, rfl⟩
      gi_wp2_with fail
      refine ⟨.tuple #[.string ⟨#[]⟩, .int .i64 3], ?_, ⟨rfl, (HF.out.setCell _ 0 _ (by omega)).setCell _ 0 _ (by omega)⟩⟩
      obtain ⟨t1, t2⟩ := two_set (u := .string ⟨#[]⟩) (v := .int .i64 3) HS.out HE.out (by omega)
      have q1 := t1.cell 0 (u := .string ⟨#[]⟩) rfl
      have q2 := t2.cell 0 (u := .int .i64 3) rfl
      simp [results, Try.results17, go_sem, q1, q2]
  · rw [if_neg h0] at hE
    rw [hE]
    have c := fun W (f : Fr w W) => check_any p q d W (hr.fr f) hb1
    generalize JN.dchk d = y at h0 c
    have hne : ((y : Int) != 0) = true := by simp; omega
    have hne2 : ¬ ((y : Int) = 0) := by omega
    clear hE hr
    refine (callsIn_wide (n := 3)).1 ?_
    refine callsIn_of_wp_marks Try.func17 rfl trivial ?_ rfl
    simp only [Try.ntmps17, List.size_toArray, List.length_cons, List.length_nil, Nat.reduceAdd, Nat.reduceSub, Array.replicate_succ, Array.replicate_zero, List.push_toArray, List.append_toArray, List.nil_append, List.cons_append]
    gi_wp2_with fail
    refine ⟨trivial, ?_⟩
    refine (callsIn_wide.2 (c _ ((((Fr.refl w).alloc _).alloc _).alloc _ |>.alloc _))).mono ?_
    rintro _ w1 ⟨rfl, f1⟩
    have bs : Blk w1 (w.heap.size + 1 + 1) #[.string ⟨#[]⟩] 9 := by
      have := ((Blk.new ((w.alloc (.cells #[p, q] 25)).alloc (.cells #[.int .i64 no] 3)) #[.string ⟨#[]⟩] 9).old _).fr f1
      rwa [World.size_alloc, World.size_alloc] at this
    have be : Blk w1 (w.heap.size + 1 + 1 + 1) #[.int .i64 0] 29 := by
      have := (Blk.new (((w.alloc (.cells #[p, q] 25)).alloc (.cells #[.int .i64 no] 3)).alloc (.cells #[.string ⟨#[]⟩] 9)) #[.int .i64 0] 29).fr f1
      rwa [World.size_alloc, World.size_alloc, World.size_alloc] at this
    have bn : Blk w1 (w.heap.size + 1) #[.int .i64 no] 3 := by
      have := (((Blk.new (w.alloc (.cells #[p, q] 25)) #[.int .i64 no] 3).old _).old _).fr f1
      rwa [World.size_alloc] at this
    have ff : Fr w w1 := (((((Fr.refl w).alloc _).alloc _).alloc _).alloc _).trans f1
    have n0 := bn.cell 0 (u := .int .i64 no) rfl
    have s0 := bs.cell 0 (u := .string ⟨#[]⟩) rfl
    have e0 := be.cell 0 (u := .int .i64 0) rfl
    have s1 := bs.frozen 0
    have e1 := be.frozen 0
    have HS := hideP bs
    have HE := hideP be
    have HF := hideP ff
    clear bn bs be ff f1 c
    gi_wp2_with fail
    refine ⟨.tuple #[.string ⟨#[]⟩, .int .i64 (y : Int)], ?_, ⟨rfl, (HF.out.setCell _ 0 _ (by omega)).setCell _ 0 _ (by omega)⟩⟩
    obtain ⟨t1, t2⟩ := two_set (u := .string ⟨#[]⟩) (v := .int .i64 (y : Int)) HS.out HE.out (by omega)
    have q1 := t1.cell 0 (u := .string ⟨#[]⟩) rfl
    have q2 := t2.cell 0 (u := .int .i64 (y : Int)) rfl
    simp [results, Try.results17, go_sem, q1, q2]
end Go.Proofs.Ytcgafodaohmcmaa
