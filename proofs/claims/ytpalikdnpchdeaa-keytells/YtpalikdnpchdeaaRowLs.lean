/-
  What the document's RowLess and RowOrder answer.
-/
import Derived.Test.YtpalikdnpchdeaaUkM
import Derived.Test.YtpalikdnpchdeaaRefLess
import Derived.Test.YtpalikdnpchdeaaSame
namespace Go.Proofs.Ytpalikdnpchdeaa
open Go.ChangeShapes Go.WideShapes Go.ChangeAt Go.RowKit
set_option linter.unusedVariables false
set_option linter.unusedSimpArgs false
set_option maxRecDepth 100000

/-- a row whose length is within its room -/
def RowC (w : World) (v : Value) (l : List VM.Vl) : Prop :=
  ∃ (a : Option Addr) (cap : Nat), v = .slice a l.length cap ∧ l.length ≤ cap ∧ (l = [] ∨ ∃ b o, a = some ⟨b, o, none⟩ ∧ b < w.heap.size ∧ CellsAt w b o l)
theorem RowC.fr {w w' : World} {v : Value} {l : List VM.Vl} (h : RowC w v l) (f : Fr w w') : RowC w' v l := by
  obtain ⟨a, cap, rfl, hc, h0 | ⟨b, o, rfl, hb, hcs⟩⟩ := h
  · exact ⟨a, cap, rfl, hc, Or.inl h0⟩
  · exact ⟨_, cap, rfl, hc, Or.inr ⟨b, o, rfl, Nat.lt_of_lt_of_le hb f.size, hcs.fr hb f⟩⟩
theorem cells_tail {w : World} {b o : Nat} {x : VM.Vl} {l : List VM.Vl} (h : CellsAt w b o (x :: l)) : CellsAt w b (o + 3) l := by
  intro i hi
  have := h (i + 1) (by simp; omega)
  simp only [List.getElem_cons_succ] at this
  rw [show o + (i + 1) * 3 = o + 3 + i * 3 by omega] at this
  exact this
theorem cellF {w w' : World} {a : Addr} {v : Value} (f : Fr w w') (h : w.cell? a = some v) : w'.cell? a = some v :=
  (Below.cell f (World.block_lt_of_cell? _ _ h)).trans h
theorem s6After {w w' : World} {a b c a2 b2 c2 : Addr} {u v z u2 v2 z2 : Value} (f : Fr w w') (h : w.cell? a = some u ∧ w.cell? b = some v ∧ w.cell? c = some z ∧ w.cell? a2 = some u2 ∧ w.cell? b2 = some v2 ∧ w.cell? c2 = some z2) : w'.cell? a = some u ∧ w'.cell? b = some v ∧ w'.cell? c = some z ∧ w'.cell? a2 = some u2 ∧ w'.cell? b2 = some v2 ∧ w'.cell? c2 = some z2 := ⟨cellF f h.1, cellF f h.2.1, cellF f h.2.2.1, cellF f h.2.2.2.1, cellF f h.2.2.2.2.1, cellF f h.2.2.2.2.2⟩

/-- of two rows that begin alike: the rests -/
theorem rowLess_same (x : VM.Vl) (b o b2 o2 : Nat) (n n2 cap cap2 : Nat) (r : Bool) (w : World) (hn1 : 1 ≤ n) (hn : n ≤ cap) (hn21 : 1 ≤ n2) (hn2 : n2 ≤ cap2)
    (c0 : w.cell? ⟨b, o, none⟩ = some (.int .i64 x.k)) (c1 : w.cell? ⟨b, o + 1, none⟩ = some (.int .i64 x.n)) (c2 : w.cell? ⟨b, o + 2, none⟩ = some (.string x.s))
    (d0 : w.cell? ⟨b2, o2, none⟩ = some (.int .i64 x.k)) (d1 : w.cell? ⟨b2, o2 + 1, none⟩ = some (.int .i64 x.n)) (d2 : w.cell? ⟨b2, o2 + 2, none⟩ = some (.string x.s))
    (ih : ∀ A A2 c c2 W, Fr w W → ((cap = 1 ∧ A = ⟨b, o, none⟩ ∧ c = 0) ∨ (¬ cap = 1 ∧ A = ⟨b, o + 3, none⟩ ∧ c = cap - 1)) → ((cap2 = 1 ∧ A2 = ⟨b2, o2, none⟩ ∧ c2 = 0) ∨ (¬ cap2 = 1 ∧ A2 = ⟨b2, o2 + 3, none⟩ ∧ c2 = cap2 - 1)) →
      Calls Try.prog 49 #[.slice (some A) (n - 1) c, .slice (some A2) (n2 - 1) c2] W fun e w' => e = .returned (.bool r) ∧ Fr W w') :
    Calls Try.prog 49 #[.slice (some ⟨b, o, none⟩) n cap, .slice (some ⟨b2, o2, none⟩) n2 cap2] w fun e w' => e = .returned (.bool r) ∧ Fr w w' := by
  obtain ⟨k, m, s⟩ := x
  simp only at c0 c1 c2 d0 d1 d2
  have p1 : (1 : Int) ≤ (n : Int) := by omega
  have p2 : (1 : Int) ≤ (n2 : Int) := by omega
  have p5 : (0 : Int) < (n : Int) := by omega
  have p6 : (0 : Int) < (n2 : Int) := by omega
  have p7 : (n : Int) ≤ (cap : Int) := by omega
  have p8 : (n2 : Int) ≤ (cap2 : Int) := by omega
  have p3 : ¬ (n : Int) = 0 := by omega
  have p4 : ¬ (n2 : Int) = 0 := by omega
  have p9 : ((n : Int) == 0) = false := by rw [beq_eq_false_iff_ne]; omega
  have p10 : ((n2 : Int) == 0) = false := by rw [beq_eq_false_iff_ne]; omega
  have h1 : (cap = 1 ∧ n = 1) ∨ (¬ cap = 1) := by omega
  have h2 : (cap2 = 1 ∧ n2 = 1) ∨ (¬ cap2 = 1) := by omega
  have IH : Hid _ := ih
  clear ih
  rcases h1 with ⟨rfl, rfl⟩ | h1 <;> rcases h2 with ⟨rfl, rfl⟩ | h2
  · have c := fun W f => IH.out ⟨b, o, none⟩ ⟨b2, o2, none⟩ 0 0 W f (Or.inl ⟨rfl, rfl, rfl⟩) (Or.inl ⟨rfl, rfl, rfl⟩)
    clear IH
    go_enter Try.func49, Try.ntmps49
    go_wp2_with fail
    go_region
    go_wp2_with fail
    go_region_held3 (fun _ => True) (first | exact trivial | assumption) (first | (go_at_call 49; refine (c _ (by first | exact Fr.drew (Fr.drew (Fr.refl _)) | exact Fr.drew (Fr.refl _) | exact Fr.trans (Fr.drew (Fr.refl _)) (by assumption))).mono ?_; rintro e w5 ⟨rfl, hfx⟩))
    all_goals
      go_wp2_with fail
      go_ret
      exact ⟨rfl, Fr.trans (Fr.drew (Fr.drew (Fr.refl _))) hfx⟩
  · have c := fun W f => IH.out ⟨b, o, none⟩ ⟨b2, o2 + 3, none⟩ 0 (cap2 - 1) W f (Or.inl ⟨rfl, rfl, rfl⟩) (Or.inr ⟨h2, rfl, rfl⟩)
    clear IH
    go_enter Try.func49, Try.ntmps49
    go_wp2_with fail
    go_region
    go_wp2_with fail
    go_region_held3 (fun _ => True) (first | exact trivial | assumption) (first | (go_at_call 49; refine (c _ (by first | exact Fr.drew (Fr.drew (Fr.refl _)) | exact Fr.drew (Fr.refl _) | exact Fr.trans (Fr.drew (Fr.refl _)) (by assumption))).mono ?_; rintro e w5 ⟨rfl, hfx⟩))
    all_goals
      go_wp2_with fail
      go_ret
      exact ⟨rfl, Fr.trans (Fr.drew (Fr.drew (Fr.refl _))) hfx⟩
  · have c := fun W f => IH.out ⟨b, o + 3, none⟩ ⟨b2, o2, none⟩ (cap - 1) 0 W f (Or.inr ⟨h1, rfl, rfl⟩) (Or.inl ⟨rfl, rfl, rfl⟩)
    clear IH
    go_enter Try.func49, Try.ntmps49
    go_wp2_with fail
    go_region
    go_wp2_with fail
    go_region_held3 (fun _ => True) (first | exact trivial | assumption) (first | (go_at_call 49; refine (c _ (by first | exact Fr.drew (Fr.drew (Fr.refl _)) | exact Fr.drew (Fr.refl _) | exact Fr.trans (Fr.drew (Fr.refl _)) (by assumption))).mono ?_; rintro e w5 ⟨rfl, hfx⟩))
    all_goals
      go_wp2_with fail
      go_ret
      exact ⟨rfl, Fr.trans (Fr.drew (Fr.drew (Fr.refl _))) hfx⟩
  · have c := fun W f => IH.out ⟨b, o + 3, none⟩ ⟨b2, o2 + 3, none⟩ (cap - 1) (cap2 - 1) W f (Or.inr ⟨h1, rfl, rfl⟩) (Or.inr ⟨h2, rfl, rfl⟩)
    clear IH
    go_enter Try.func49, Try.ntmps49
    go_wp2_with fail
    go_region
    go_wp2_with fail
    go_region_held3 (fun _ => True) (first | exact trivial | assumption) (first | (go_at_call 49; refine (c _ (by first | exact Fr.drew (Fr.drew (Fr.refl _)) | exact Fr.drew (Fr.refl _) | exact Fr.trans (Fr.drew (Fr.refl _)) (by assumption))).mono ?_; rintro e w5 ⟨rfl, hfx⟩))
    all_goals
      go_wp2_with fail
      go_ret
      exact ⟨rfl, Fr.trans (Fr.drew (Fr.drew (Fr.refl _))) hfx⟩

theorem tlInj {a b : ByteArray} (h : a.toList = b.toList) : a = b := by
  rw [Lib.toList_data, Lib.toList_data] at h
  cases a; cases b
  simp at h
  rw [h]
set_option maxHeartbeats 1000000 in
/-- of two rows that begin otherwise: their first ones -/
theorem rowLess_diff (xk xn yk yn : Int) (xs ys : ByteArray) (b o b2 o2 : Nat) (n n2 cap cap2 : Nat) (r : Bool) (w : World) (hn1 : 1 ≤ n) (hn21 : 1 ≤ n2) (hne : ¬ (xk = yk ∧ xn = yn ∧ xs = ys))
    (c0 : w.cell? ⟨b, o, none⟩ = some (.int .i64 xk)) (c1 : w.cell? ⟨b, o + 1, none⟩ = some (.int .i64 xn)) (c2 : w.cell? ⟨b, o + 2, none⟩ = some (.string xs))
    (d0 : w.cell? ⟨b2, o2, none⟩ = some (.int .i64 yk)) (d1 : w.cell? ⟨b2, o2 + 1, none⟩ = some (.int .i64 yn)) (d2 : w.cell? ⟨b2, o2 + 2, none⟩ = some (.string ys))
    (c : ∀ W, Calls Try.prog 63 #[.agg #[.int .i64 xk, .int .i64 xn, .string xs], .agg #[.int .i64 yk, .int .i64 yn, .string ys]] W fun e w' => e = .returned (.bool r) ∧ Fr W w') :
    Calls Try.prog 49 #[.slice (some ⟨b, o, none⟩) n cap, .slice (some ⟨b2, o2, none⟩) n2 cap2] w fun e w' => e = .returned (.bool r) ∧ Fr w w' := by
  have p5 : (0 : Int) < (n : Int) := by omega
  have p11 : 0 < n := by omega
  have p12 : 0 < n2 := by omega
  have p6 : (0 : Int) < (n2 : Int) := by omega
  have p3 : ¬ (n : Int) = 0 := by omega
  have p4 : ¬ (n2 : Int) = 0 := by omega
  have p9 : ((n : Int) == 0) = false := by rw [beq_eq_false_iff_ne]; omega
  have p10 : ((n2 : Int) == 0) = false := by rw [beq_eq_false_iff_ne]; omega
  by_cases h1 : xk = yk
  · subst h1
    by_cases h2 : xn = yn
    · subst h2
      have h3 : ¬ xs.toList = ys.toList := fun h => hne ⟨rfl, rfl, tlInj h⟩
      have h4 : (xs.toList == ys.toList) = false := beq_false_of_ne h3
      clear hne
      go_enter Try.func49, Try.ntmps49
      go_wp2_with fail
      go_region
      go_wp2_with fail
      go_region_held3 (fun W' => W'.cell? ⟨b, o, none⟩ = some (.int .i64 xk) ∧ W'.cell? ⟨b, o + 1, none⟩ = some (.int .i64 xn) ∧ W'.cell? ⟨b, o + 2, none⟩ = some (.string xs) ∧ W'.cell? ⟨b2, o2, none⟩ = some (.int .i64 xk) ∧ W'.cell? ⟨b2, o2 + 1, none⟩ = some (.int .i64 xn) ∧ W'.cell? ⟨b2, o2 + 2, none⟩ = some (.string ys)) (first | exact ⟨c0, c1, c2, d0, d1, d2⟩ | assumption | exact s6After (by assumption) (by assumption)) (first | (go_at_call 63; refine (c _).mono ?_; rintro e w5 ⟨rfl, hfx⟩))
      all_goals
        go_wp2_with fail
        go_ret
        exact ⟨rfl, Fr.trans (Fr.drew (Fr.drew (Fr.refl _))) hfx⟩
    · have h3 : (xn == yn) = false := beq_false_of_ne h2
      clear hne
      go_enter Try.func49, Try.ntmps49
      go_wp2_with fail
      go_region
      go_wp2_with fail
      go_region_held3 (fun W' => W'.cell? ⟨b, o, none⟩ = some (.int .i64 xk) ∧ W'.cell? ⟨b, o + 1, none⟩ = some (.int .i64 xn) ∧ W'.cell? ⟨b, o + 2, none⟩ = some (.string xs) ∧ W'.cell? ⟨b2, o2, none⟩ = some (.int .i64 xk) ∧ W'.cell? ⟨b2, o2 + 1, none⟩ = some (.int .i64 yn) ∧ W'.cell? ⟨b2, o2 + 2, none⟩ = some (.string ys)) (first | exact ⟨c0, c1, c2, d0, d1, d2⟩ | assumption | exact s6After (by assumption) (by assumption)) (first | (go_at_call 63; refine (c _).mono ?_; rintro e w5 ⟨rfl, hfx⟩))
      all_goals
        go_wp2_with fail
        go_ret
        exact ⟨rfl, Fr.trans (Fr.drew (Fr.drew (Fr.refl _))) hfx⟩
  · have h3 : (xk == yk) = false := beq_false_of_ne h1
    clear hne
    go_enter Try.func49, Try.ntmps49
    go_wp2_with fail
    go_region
    go_wp2_with fail
    go_region_held3 (fun W' => W'.cell? ⟨b, o, none⟩ = some (.int .i64 xk) ∧ W'.cell? ⟨b, o + 1, none⟩ = some (.int .i64 xn) ∧ W'.cell? ⟨b, o + 2, none⟩ = some (.string xs) ∧ W'.cell? ⟨b2, o2, none⟩ = some (.int .i64 yk) ∧ W'.cell? ⟨b2, o2 + 1, none⟩ = some (.int .i64 yn) ∧ W'.cell? ⟨b2, o2 + 2, none⟩ = some (.string ys)) (first | exact ⟨c0, c1, c2, d0, d1, d2⟩ | assumption | exact s6After (by assumption) (by assumption)) (first | (go_at_call 63; refine (c _).mono ?_; rintro e w5 ⟨rfl, hfx⟩))
    all_goals
      go_wp2_with fail
      go_ret
      exact ⟨rfl, Fr.trans (Fr.drew (Fr.drew (Fr.refl _))) hfx⟩

theorem ord_zero3 {x y : VM.Vl} (h : CM.ord x y ≠ 0) : ¬ (x.k = y.k ∧ x.n = y.n ∧ x.s = y.s) := fun e => h ((ord_zero x y).2 e)
theorem ord_same {x y : VM.Vl} (h : CM.ord x y = 0) : x = y := by
  obtain ⟨h1, h2, h3⟩ := (ord_zero x y).1 h
  cases x; cases y
  simp only at h1 h2 h3
  rw [h1, h2, h3]
theorem rowLess_nilb (a a2 : Option Addr) (n cap cap2 : Nat) (w : World) :
    Calls Try.prog 49 #[.slice a n cap, .slice a2 0 cap2] w fun e w' => e = .returned (.bool false) ∧ Fr w w' := by
  go_enter Try.func49, Try.ntmps49
  go_wp2_with fail
  go_ret
  exact ⟨rfl, Fr.refl _⟩
theorem rowLess_nila (a a2 : Option Addr) (n2 cap cap2 : Nat) (w : World) (hn : 1 ≤ n2) :
    Calls Try.prog 49 #[.slice a 0 cap, .slice a2 n2 cap2] w fun e w' => e = .returned (.bool true) ∧ Fr w w' := by
  have p4 : ¬ (n2 : Int) = 0 := by omega
  have p10 : ((n2 : Int) == 0) = false := by rw [beq_eq_false_iff_ne]; omega
  go_enter Try.func49, Try.ntmps49
  go_wp2_with fail
  go_ret
  exact ⟨rfl, Fr.refl _⟩
theorem rowLess_any : ∀ (l m : List VM.Vl) (v u : Value) (w : World), RowC w v l → RowC w u m → (∀ x ∈ l, x.s.size ≤ maxLen) → (∀ x ∈ m, x.s.size ≤ maxLen) →
    Calls Try.prog 49 #[v, u] w fun e w' => e = .returned (.bool (UK.rl l m)) ∧ Fr w w'
  | l, [], v, u, w, hv, hu, _, _ => by
    obtain ⟨a, cap, rfl, _⟩ := hv
    obtain ⟨a2, cap2, rfl, _⟩ := hu
    have : UK.rl l [] = false := by cases l <;> rfl
    rw [this]
    exact rowLess_nilb a a2 _ cap cap2 w
  | [], y :: m, v, u, w, hv, hu, _, _ => by
    obtain ⟨a, cap, rfl, _⟩ := hv
    obtain ⟨a2, cap2, rfl, _⟩ := hu
    exact rowLess_nila a a2 _ cap cap2 w (by simp)
  | x :: l, y :: m, v, u, w, hv, hu, hl, hm => by
    have ih := rowLess_any l m
    obtain ⟨a, cap, rfl, hc, h0 | ⟨b, o, rfl, hb, hcs⟩⟩ := hv
    · cases h0
    obtain ⟨a2, cap2, rfl, hc2, h0 | ⟨b2, o2, rfl, hb2, hcs2⟩⟩ := hu
    · cases h0
    obtain ⟨c0, c1, c2⟩ := hcs 0 (by simp)
    obtain ⟨d0, d1, d2⟩ := hcs2 0 (by simp)
    simp only [List.getElem_cons_zero, Nat.zero_mul, Nat.add_zero] at c0 c1 c2 d0 d1 d2
    have e1 : UK.rl (x :: l) (y :: m) = if CM.ord x y ≠ 0 then decide (CM.ord x y < 0) else UK.rl l m := by rw [UK.rl]
    have hx := hl x (by simp)
    have hy := hm y (by simp)
    have hl' : ∀ z ∈ l, z.s.size ≤ maxLen := fun z hz => hl z (by simp [hz])
    have hm' : ∀ z ∈ m, z.s.size ≤ maxLen := fun z hz => hm z (by simp [hz])
    rw [List.length_cons] at hc hc2
    by_cases h : CM.ord x y = 0
    · rw [e1, if_neg (by simpa using h)]
      obtain rfl := ord_same h
      refine rowLess_same x b o b2 o2 _ _ cap cap2 _ w (by simp) hc (by simp) hc2 c0 c1 c2 d0 d1 d2 ?_
      intro A A2 c c' W f hA hA2
      refine ih _ _ W ?_ ?_ hl' hm'
      · rcases hA with ⟨rfl, rfl, rfl⟩ | ⟨h1, rfl, rfl⟩
        · have : l = [] := List.eq_nil_of_length_eq_zero (by omega)
          subst this
          exact ⟨_, 0, rfl, Nat.le_refl _, Or.inl rfl⟩
        · exact ⟨_, _, rfl, by omega, Or.inr ⟨b, o + 3, rfl, Nat.lt_of_lt_of_le hb f.size, (cells_tail hcs).fr hb f⟩⟩
      · rcases hA2 with ⟨rfl, rfl, rfl⟩ | ⟨h1, rfl, rfl⟩
        · have : m = [] := List.eq_nil_of_length_eq_zero (by omega)
          subst this
          exact ⟨_, 0, rfl, Nat.le_refl _, Or.inl rfl⟩
        · exact ⟨_, _, rfl, by omega, Or.inr ⟨b2, o2 + 3, rfl, Nat.lt_of_lt_of_le hb2 f.size, (cells_tail hcs2).fr hb2 f⟩⟩
    · rw [e1, if_pos h]
      exact rowLess_diff x.k x.n y.k y.n x.s y.s b o b2 o2 _ _ cap cap2 _ w (by simp) (by simp) (ord_zero3 h) c0 c1 c2 d0 d1 d2 (fun W => valueLess_any x y W hx hy)
theorem rowOrder_any (l m : List VM.Vl) (v u : Value) (w : World) (hv : RowC w v l) (hu : RowC w u m) (hl : ∀ x ∈ l, VM.chk x = 0) (hm : ∀ x ∈ m, VM.chk x = 0) (hl' : ∀ x ∈ l, x.s.size ≤ maxLen) (hm' : ∀ x ∈ m, x.s.size ≤ maxLen) :
    Calls Try.prog 22 #[v, u] w fun e w' => e = .returned (.int .i64 (CM.rows l m)) ∧ Fr w w' := by
  have c1 := fun W (f : Fr w W) => rowLess_any l m v u W (hv.fr f) (hu.fr f) hl' hm'
  have c2 := fun W (f : Fr w W) => rowLess_any m l u v W (hu.fr f) (hv.fr f) hm' hl'
  rw [UK.rows_rl l m hl hm]
  generalize UK.rl l m = p at *
  generalize UK.rl m l = q at *
  have HC2 : Hid _ := c2
  clear c2
  go_enter Try.func22, Try.ntmps22
  go_wp2_with fail
  refine (c1 _ (Fr.refl _)).mono ?_
  rintro _ w1 ⟨rfl, f1⟩
  have F1 : Hid _ := f1
  have c3 := HC2.out w1 f1
  clear f1 c1 HC2
  cases p
  · go_wp2_with fail
    refine c3.mono ?_
    rintro _ w2 ⟨rfl, f2⟩
    have F2 : Hid (Fr w w2) := Fr.trans F1.out f2
    clear f2 c3
    cases q
    · go_wp2_with fail
      go_ret
      exact ⟨rfl, F2.out⟩
    · go_wp2_with fail
      go_ret
      exact ⟨rfl, F2.out⟩
  · go_wp2_with fail
    go_ret
    exact ⟨rfl, F1.out⟩
end Go.Proofs.Ytpalikdnpchdeaa
