/-
  Proved: for every list and every place SortParts answers true: a sorted list is sorted; two sorted parts, sorted together, are all of it sorted. No condition but the form's own reach.
-/
import Derived.Test.YtjadmefiilkgmaaGreatDoorSrtE
namespace Go.Proofs.YtjadmefiilkgmaaGreatDoor.sortPartsProof
open Go.ChangeShapes Go.WideShapes Go.ChangeAt Go.RowKit Go.Shelf Go.Sort Go.Lib
set_option linter.unusedVariables false
set_option linter.unusedSimpArgs false
set_option maxRecDepth 100000

theorem Tryz.bytesVal : Tryz.prog.bytesOf 23 = 32 := by kernel_rfl
/-- nil, or in memory, its length within its room -/
def RowCap (v : Value) : Prop := v = .slice none 0 0 ∨ ∃ A n c, v = .slice (some A) n c ∧ n ≤ c
theorem open_nilrow {H : Type} {enc : TypeId × Value → H} {W : World} {base : Nat} {r : Reach} {v : Value} {d : DataW H} {p : List MemPlace} (hval : Value.okWide Tryz.prog W r base 28 v)
    (h : DataW.Trod enc Tryz.prog W 0 (fun _ => true) true 28 v d p) : RowCap v := by
  obtain ⟨a0, len0, cap0, rfl⟩ := okWide_slice Tryz.underlying28 hval
  obtain ⟨fuel, hf⟩ := h
  rcases Deep.open_slice Tryz.underlying28 hf with ⟨hcs, hx⟩ | ⟨a, len, cap, m, n, D, Pl, hcs, _, hl, _⟩
  · simp only [Value.cells] at hcs
    simp at hcs
    obtain ⟨rfl, rfl, rfl⟩ := hcs
    exact Or.inl rfl
  · simp only [Value.cells] at hcs
    simp at hcs
    obtain ⟨rfl, rfl, rfl⟩ := hcs
    exact Or.inr ⟨a, _, _, rfl, hl⟩

set_option maxHeartbeats 1000000 in
theorem sort_empty2 (A : Addr) (c : Nat) (w : World) :
    Calls Tryz.prog 22 #[.slice (some A) 0 c] w fun e w' => ∃ v', e = .returned (.tuple #[v', .int .i64 0]) ∧ Fr w w' ∧ IsRow w' v' [] ∧ NilOrRow v' := by
  have hck := checkAll_any (.slice (some A) 0 c) [] w ⟨some A, c, rfl, Or.inl rfl⟩ (by decide)
  have hcl := fun W => clone_empty A c W
  rw [show VM.chkAll [] = 0 from rfl] at hck
  go_enter Tryz.func22, Tryz.ntmps22
  go_wp2_with fail
  refine hck.mono ?_
  rintro _ w1 ⟨rfl, f1⟩
  go_wp2_with fail
  refine (hcl _).mono ?_
  rintro _ w2 ⟨v', rfl, f2, g, cap', cur, rfl, hg, hb⟩
  have hsf := sortF_any g cap' cur [] w2 (by decide) hb (by simp [rowV])
  have F : Hid (Fr w w2) := f1.trans f2
  have HG : Hid (w.heap.size ≤ g) := by unfold Hid; have := f1.size; omega
  clear f1 f2 hck hcl hb hg
  go_wp2_with fail
  refine hsf.mono ?_
  rintro _ w3 ⟨rfl, hbl, hrow⟩
  have HR : Hid _ := hrow
  have F3 : Hid (Fr w w3) := hbl _ _ F.out HG.out F.out.size
  clear hsf hbl hrow
  go_wp2_with fail
  go_ret2
  refine ⟨_, rfl, F3.out, ?_, Or.inr ⟨_, _, _, rfl⟩⟩
  have := HR.out
  rw [srt_nil] at this
  exact this
/-- Sort of a list that is handed in; its answer, too, is nil or in memory -/
theorem sort_in2 (v : Value) (l : List VM.Vl) (w : World) (hr : IsRow w v l) (ha : NilOrRow v) (hbig : l.length ≤ 9223372036854775807) :
    Calls Tryz.prog 22 #[v] w fun e w' => ∃ v', e = .returned (.tuple #[v', .int .i64 (sErr l)]) ∧ Fr w w' ∧ IsRow w' v' (srtOf l) ∧ NilOrRow v' := by
  have ad : ∀ {v'}, Ad v' → NilOrRow v' := by
    rintro v' (h | ⟨b, o, n, c, h⟩)
    · exact Or.inl h
    · exact Or.inr ⟨_, _, _, h⟩
  rcases ha with rfl | ⟨A, n, c, rfl⟩
  · refine (sort_any _ l w hr (Or.inl rfl) hbig).mono ?_
    rintro _ w' ⟨v', rfl, h1, h2, h3⟩
    exact ⟨v', rfl, h1, h2, ad h3⟩
  · have hr0 := hr
    obtain ⟨a, cap, e, h0 | ⟨b, o, rfl, _⟩⟩ := hr0
    · subst h0
      injection e with e1 e2 e3
      subst e1 e2 e3
      refine (sort_empty2 A c w).mono ?_
      rintro _ w' ⟨v', rfl, h1, h2, h3⟩
      exact ⟨v', rfl, h1, by rw [srtOf_nil]; exact h2, h3⟩
    · refine (sort_any _ l w hr (Or.inr ⟨b, o, n, c, by injection e with e1 e2 e3; rw [e1]⟩) hbig).mono ?_
      rintro _ w' ⟨v', rfl, h1, h2, h3⟩
      exact ⟨v', rfl, h1, h2, ad h3⟩

theorem own_nr {w : World} {base : Nat} {v : Value} {n : Nat} {xs : List Value} (h : w.ownsRow base 23 3 v n xs) : NilOrRow v := by
  rcases h.2 with ⟨h1, _⟩ | ⟨g, cap, cur, h1, _⟩
  · exact Or.inl h1
  · exact Or.inr ⟨_, _, _, h1⟩

set_option maxHeartbeats 4000000 in
theorem coreOut (a : Option Addr) (n c : Nat) (k : Int) (e : Nat) (m : List VM.Vl) (w : World) (hT : Tb w) (ho : e ≠ 0 ∨ (e = 0 ∧ k < 0) ∨ (e = 0 ∧ 0 ≤ k ∧ (n : Int) < k))
    (c1 : Calls Tryz.prog 22 #[.slice a n c] w fun r w' => ∃ v', r = .returned (.tuple #[v', .int .i64 e]) ∧ Fr w w' ∧ IsRow w' v' m ∧ NilOrRow v') :
    Calls Tryz.prog 10 #[.slice a n c, .int .i64 k] w fun r w' => r = .returned (.bool true) ∧ Fr w w' := by
  rcases ho with h | ⟨rfl, h⟩ | ⟨rfl, h0, h⟩
  · have q1 : ((e : Int) != 0) = true := by simp; omega
    have q2 : ¬ ((e : Int) = 0) := by omega
    go_enter Tryz.func10, Tryz.ntmps10
    go_wp2_with fail
    refine c1.mono ?_
    rintro _ w1 ⟨v', rfl, f1, _, _⟩
    go_wp2_with fail
    refine (begun_any _ (hT.fr f1)).mono ?_
    rintro _ w2 ⟨rfl, f2⟩
    have F2 : Hid (Fr w w2) := Fr.trans f1 f2
    clear f1 f2
    go_wp2_with fail
    go_ret
    exact ⟨rfl, F2.out⟩
  · go_enter Tryz.func10, Tryz.ntmps10
    go_wp2_with fail
    refine c1.mono ?_
    rintro _ w1 ⟨v', rfl, f1, _, _⟩
    go_wp2_with fail
    refine (begun_any _ (hT.fr f1)).mono ?_
    rintro _ w2 ⟨rfl, f2⟩
    have F2 : Hid (Fr w w2) := Fr.trans f1 f2
    clear f1 f2
    go_wp2_with fail
    go_ret
    exact ⟨rfl, F2.out⟩
  · go_enter Tryz.func10, Tryz.ntmps10
    go_wp2_with fail
    refine c1.mono ?_
    rintro _ w1 ⟨v', rfl, f1, _, _⟩
    go_wp2_with fail
    refine (begun_any _ (hT.fr f1)).mono ?_
    rintro _ w2 ⟨rfl, f2⟩
    have F2 : Hid (Fr w w2) := Fr.trans f1 f2
    clear f1 f2
    go_wp2_with fail
    go_ret
    exact ⟨rfl, F2.out⟩

/-- behind both parts -/
def Parts (w : World) (a : Option Addr) (n c k : Nat) (B : Option Addr) (c' : Nat) : Prop := (c = k ∧ n = k ∧ B = a ∧ c' = 0) ∨ (∃ A, ¬ c = k ∧ a = some A ∧ B = some (A.add (k * 3)) ∧ c' = c - k)
set_option maxHeartbeats 3000000 in
theorem core (a B : Option Addr) (n c c' k : Nat) (l1 l2 m : List VM.Vl) (w : World) (hT : Tb w) (hkn : k ≤ n) (hnc : n ≤ c) (hB : Parts w a n c k B c') (h40 : l1.length + l2.length ≤ 40) (hm : m.length ≤ 40)
    (c1 : Calls Tryz.prog 22 #[.slice a n c] w fun r w' => ∃ v', r = .returned (.tuple #[v', .int .i64 0]) ∧ Fr w w' ∧ IsRow w' v' m ∧ NilOrRow v')
    (c2 : ∀ W, Fr w W → Calls Tryz.prog 22 #[.slice a k c] W fun r w' => ∃ v', r = .returned (.tuple #[v', .int .i64 0]) ∧ Fr W w' ∧ IsRow w' v' l1 ∧ NilOrRow v')
    (c3 : ∀ W, Fr w W → Calls Tryz.prog 22 #[.slice B (n - k) c'] W fun r w' => ∃ v', r = .returned (.tuple #[v', .int .i64 0]) ∧ Fr W w' ∧ IsRow w' v' l2 ∧ NilOrRow v')
    (c4 : ∀ W r, IsRow W r (l1 ++ l2) → NilOrRow r → Calls Tryz.prog 22 #[r] W fun q w' => ∃ v', q = .returned (.tuple #[v', .int .i64 0]) ∧ Fr W w' ∧ IsRow w' v' m ∧ NilOrRow v')
    (c5 : ∀ W r, IsRow W r m → NilOrRow r → Calls Tryz.prog 22 #[r] W fun q w' => ∃ v', q = .returned (.tuple #[v', .int .i64 0]) ∧ Fr W w' ∧ IsRow w' v' m ∧ NilOrRow v') :
    Calls Tryz.prog 10 #[.slice a n c, .int .i64 k] w fun r w' => r = .returned (.bool true) ∧ Fr w w' := by
  have q1 : (k : Int) ≤ (n : Int) := by omega
  have q2 : (n : Int) ≤ (c : Int) := by omega
  have q3 : (k : Int) ≤ (c : Int) := by omega
  have q4 : (0 : Int) ≤ (k : Int) := by omega
  have C3 : Hid _ := c3
  have C4 : Hid _ := c4
  have C5 : Hid _ := c5
  unfold Parts at hB
  clear c3 c4 c5
  rcases hB with ⟨rfl, rfl, rfl, rfl⟩ | ⟨A, hck, rfl, rfl, rfl⟩
  all_goals (
    go_enter Tryz.func10, Tryz.ntmps10
    go_wp2_with fail
    refine c1.mono ?_
    rintro _ w1 ⟨vm, rfl, f1, hvm, nvm⟩
    go_wp2_with fail
    refine (begun_any _ (hT.fr f1)).mono ?_
    rintro _ w2 ⟨rfl, f2⟩
    have F2 : Hid (Fr w w2) := Fr.trans f1 f2
    have HM2 : Hid (IsRow w2 vm m) := IsRow.fr hvm f2
    have NM : Hid _ := nvm
    have c2' := c2 w2 F2.out
    clear f1 f2 hvm nvm c1 c2
    go_wp2_with fail
    refine c2'.mono ?_
    rintro _ w3 ⟨va, rfl, f3, hva, nva⟩
    have F3 : Hid (Fr w w3) := Fr.trans F2.out f3
    have HM3 : Hid (IsRow w3 vm m) := IsRow.fr HM2.out f3
    have HA3 : Hid _ := hva
    have NA : Hid _ := nva
    have c3' := C3.out w3 F3.out
    try rw [Nat.sub_self] at c3'
    clear f3 hva nva c2' C3 F2 HM2
    go_wp2_with fail
    refine c3'.mono ?_
    rintro _ w4 ⟨vb, rfl, f4, hvb, nvb⟩
    have F4 : Hid (Fr w w4) := Fr.trans F3.out f4
    have HM4 : Hid (IsRow w4 vm m) := IsRow.fr HM3.out f4
    have HA4 : Hid (IsRow w4 va l1) := IsRow.fr HA3.out f4
    have HB4 : Hid _ := hvb
    have NB : Hid _ := nvb
    clear f4 hvb nvb c3' F3 HM3 HA3
    have own0 : (w4.alloc (.cells #[] 23)).ownsRow w4.heap.size 23 3 (.slice (some ⟨w4.heap.size, 0, none⟩) 0 0) 0 (rowV []) := World.ownsRow_lit (base := w4.heap.size) (e := 23) (size := 3) w4 #[] 0 (Nat.le_refl _) (by decide) rfl
    have ia : IsRow (w4.alloc (.cells #[] 23)) va l1 := IsRow.fr HA4.out ((Fr.refl _).alloc _)
    have na := NA.out
    go_wp2_with (at_builtin; refine wpList_append_row rfl _ _ rfl w4.heap.size _ 0 [] rfl own0 va l1 rfl ia na (by omega) (by simp) ?_)
    intro v5 w5 own5 g5
    have B5 : Hid (Below w4.heap.size w4 w5) := Below.grown ((Fr.refl w4).alloc _) g5 (by simp) (fun q hq => (own0.lt q hq).1)
    have ib : IsRow w5 vb l2 := IsRow.fr HB4.out B5.out
    have nb := NB.out
    clear g5 own0 ia na
    go_wp2_with (at_builtin; refine wpList_append_row rfl _ _ rfl w4.heap.size _ l1.length l1 rfl own5 vb l2 rfl ib nb (by omega) (by have := Fr.size B5.out; omega) ?_)
    intro v6 w6 own6 g6
    have B6 : Hid (Fr w4 w6) := Below.grown B5.out g6 (by have := Fr.size B5.out; omega) (fun q hq => (own5.lt q hq).1)
    have hab : IsRow w6 v6 (l1 ++ l2) := row_of_own own6
    have nab := own_nr own6
    have F6 : Hid (Fr w w6) := Fr.trans F4.out B6.out
    have HM6 : Hid (IsRow w6 vm m) := IsRow.fr HM4.out B6.out
    have c4' := C4.out w6 v6 hab nab
    clear g6 own5 own6 ib nb B5 B6 hab nab C4 F4 HM4 HA4 HB4
    go_wp2_with fail
    refine c4'.mono ?_
    rintro _ w7 ⟨vn, rfl, f7, hvn, _⟩
    have F7 : Hid (Fr w w7) := Fr.trans F6.out f7
    have HM7 : Hid (IsRow w7 vm m) := IsRow.fr HM6.out f7
    have HN7 : Hid _ := hvn
    have c5' := C5.out w7 vm HM7.out NM.out
    clear f7 hvn c4' C5 F6 HM6
    go_wp2_with fail
    refine c5'.mono ?_
    rintro _ w8 ⟨vo, rfl, f8, hvo, _⟩
    have F8 : Hid (Fr w w8) := Fr.trans F7.out f8
    have HM8 : Hid (IsRow w8 vm m) := IsRow.fr HM7.out f8
    have HN8 : Hid (IsRow w8 vn m) := IsRow.fr HN7.out f8
    have HO8 : Hid _ := hvo
    have s1 := sameRow_eq vn vm m w8 HN8.out HM8.out (by omega)
    clear f8 hvo c5' F7 HM7 HN7
    go_wp2_with fail
    refine s1.mono ?_
    rintro _ w9 ⟨rfl, f9⟩
    have F9 : Hid (Fr w w9) := Fr.trans F8.out f9
    have s2 := sameRow_eq vo vm m w9 (IsRow.fr HO8.out f9) (IsRow.fr HM8.out f9) (by omega)
    clear f9 s1 F8 HM8 HN8 HO8
    go_wp2_with fail
    refine s2.mono ?_
    rintro _ w10 ⟨rfl, f10⟩
    have F10 : Hid (Fr w w10) := Fr.trans F9.out f10
    clear f10 s2
    go_wp2_with fail
    go_ret
    exact ⟨rfl, F10.out⟩)

theorem all_ok : ∀ {l : List VM.Vl}, VM.chkAll l = 0 ↔ ∀ x ∈ l, VM.chk x = 0
  | [] => by simp [VM.chkAll]
  | y :: l => by
    have ih := all_ok (l := l)
    unfold VM.chkAll
    by_cases hy : VM.chk y = 0
    · rw [if_pos hy, ih]; simp [hy]
    · rw [if_neg hy]; simp [hy]
theorem sErr_ok {l : List VM.Vl} (h1 : l.length ≤ 40) (h2 : ∀ x ∈ l, VM.chk x = 0) : sErr l = 0 := by
  unfold sErr
  rw [if_neg (by omega)]
  exact all_ok.2 h2
theorem ok_sErr {l : List VM.Vl} (h : sErr l = 0) : l.length ≤ 40 ∧ ∀ x ∈ l, VM.chk x = 0 := by
  unfold sErr at h
  split at h
  · cases h
  · exact ⟨by omega, all_ok.1 h⟩
theorem srt_srt (l : List VM.Vl) : SM.srt (SM.srt l) = SM.srt l := SM.sorted_one (SM.srt_perm _) (SM.srt_sorted _) (SM.srt_sorted _)
theorem srt_two (l : List VM.Vl) (k : Nat) : SM.srt (SM.srt (l.take k) ++ SM.srt (l.drop k)) = SM.srt l := by
  refine SM.sorted_one ?_ (SM.srt_sorted _) (SM.srt_sorted _)
  refine (SM.srt_perm _).trans (((SM.srt_perm _).append (SM.srt_perm _)).trans ?_)
  rw [List.take_append_drop]
  exact (SM.srt_perm l).symm
theorem take_row {w : World} {a : Option Addr} {cap : Nat} {l : List VM.Vl} (k : Nat) (hk : k ≤ l.length) (h : IsRow w (.slice a l.length cap) l) : IsRow w (.slice a k cap) (l.take k) := by
  obtain ⟨a', cap', he, hr⟩ := h
  simp only [Value.slice.injEq] at he
  obtain ⟨rfl, _, rfl⟩ := he
  have hl : (l.take k).length = k := by rw [List.length_take]; omega
  refine ⟨a, cap, by rw [hl], ?_⟩
  rcases hr with h0 | ⟨b, o, rfl, hb, hcl⟩
  · exact Or.inl (by rw [h0]; simp)
  · refine Or.inr ⟨b, o, rfl, hb, fun i hi => ?_⟩
    have := hcl i (by omega)
    simpa using this
theorem drop_row {w : World} {A : Addr} {cap : Nat} {l : List VM.Vl} (k : Nat) (hk : k ≤ l.length) (h : IsRow w (.slice (some A) l.length cap) l) : IsRow w (.slice (some (A.add (k * 3))) (l.length - k) (cap - k)) (l.drop k) := by
  obtain ⟨a', cap', he, hr⟩ := h
  simp only [Value.slice.injEq] at he
  obtain ⟨rfl, _, rfl⟩ := he
  refine ⟨_, _, by rw [List.length_drop], ?_⟩
  rcases hr with h0 | ⟨b, o, hA, hb, hcl⟩
  · exact Or.inl (by rw [h0]; simp)
  · simp only [Option.some.injEq] at hA
    subst hA
    rw [add_at _ _ rfl]
    refine Or.inr ⟨b, o + k * 3, rfl, hb, fun i hi => ?_⟩
    rw [List.length_drop] at hi
    have := hcl (k + i) (by omega)
    rw [show o + (k + i) * 3 = o + k * 3 + i * 3 by omega] at this
    simpa using this

theorem walk (v : Value) (l : List VM.Vl) (k : Int) (w : World) (hT : Tb w) (hr : IsRow w v l) (_ : ∀ y ∈ l, y.s.size ≤ maxLen) (hb : l.length * 32 ≤ 140737488351232) (hn : RowCap v) (hk : -9223372036854775808 ≤ k ∧ k ≤ 9223372036854775807) :
    Calls Tryz.prog 10 #[v, .int .i64 k] w fun e w' => e = .returned (.bool true) ∧ Fr w w' := by
  have hnr : NilOrRow v := by
    rcases hn with h | ⟨A, n, c, h, _⟩
    · exact Or.inl h
    · exact Or.inr ⟨A, n, c, h⟩
  have c1 := sort_in2 v l w hr hnr (by omega)
  have hr' := hr
  obtain ⟨a, cap, rfl, hcs⟩ := hr
  have hcap : l.length ≤ cap := by
    rcases hn with h | ⟨A, n, c, h, h'⟩
    · simp only [Value.slice.injEq] at h; omega
    · simp only [Value.slice.injEq] at h; omega
  by_cases he : sErr l = 0
  · by_cases hin : 0 ≤ k ∧ k ≤ (l.length : Int)
    · obtain ⟨j, rfl⟩ := Int.eq_ofNat_of_zero_le hin.1
      have hj : j ≤ l.length := by omega
      obtain ⟨h40, hok⟩ := ok_sErr he
      have et : sErr (l.take j) = 0 := sErr_ok (by rw [List.length_take]; omega) (fun x hx => hok x (List.mem_of_mem_take hx))
      have ed : sErr (l.drop j) = 0 := sErr_ok (by rw [List.length_drop]; omega) (fun x hx => hok x (List.mem_of_mem_drop hx))
      have st : srtOf (l.take j) = SM.srt (l.take j) := if_pos et
      have sd : srtOf (l.drop j) = SM.srt (l.drop j) := if_pos ed
      have sl : srtOf l = SM.srt l := if_pos he
      have l12 : (SM.srt (l.take j) ++ SM.srt (l.drop j)).length = l.length := by rw [List.length_append, SM.srt_len, SM.srt_len, ← List.length_append, List.take_append_drop]
      have e12 : sErr (SM.srt (l.take j) ++ SM.srt (l.drop j)) = 0 := sErr_ok (by omega) (fun x hx => by
        rcases List.mem_append.1 hx with h | h
        · exact hok x (List.mem_of_mem_take ((SM.srt_perm _).mem_iff.1 h))
        · exact hok x (List.mem_of_mem_drop ((SM.srt_perm _).mem_iff.1 h)))
      have s12 : srtOf (SM.srt (l.take j) ++ SM.srt (l.drop j)) = SM.srt l := (if_pos e12).trans (srt_two l j)
      have es : sErr (SM.srt l) = 0 := sErr_ok (by rw [SM.srt_len]; omega) (fun x hx => hok x ((SM.srt_perm _).mem_iff.1 hx))
      have ss : srtOf (SM.srt l) = SM.srt l := (if_pos es).trans (srt_srt l)
      rw [he, sl] at c1
      have c2 : ∀ W, Fr w W → Calls Tryz.prog 22 #[.slice a j cap] W fun r w' => ∃ v', r = .returned (.tuple #[v', .int .i64 0]) ∧ Fr W w' ∧ IsRow w' v' (SM.srt (l.take j)) ∧ NilOrRow v' := by
        intro W f
        have nj : NilOrRow (.slice a j cap) := by
          rcases hn with h | ⟨A, n, c, h, _⟩
          · simp only [Value.slice.injEq] at h
            obtain ⟨rfl, h1, rfl⟩ := h
            obtain rfl : j = 0 := by omega
            exact Or.inl rfl
          · simp only [Value.slice.injEq] at h
            obtain ⟨rfl, _, _⟩ := h
            exact Or.inr ⟨A, j, cap, rfl⟩
        have h := sort_in2 _ _ W ((take_row j hj hr').fr f) nj (by rw [List.length_take]; omega)
        rw [et, st] at h
        exact h
      have c4 : ∀ W r, IsRow W r (SM.srt (l.take j) ++ SM.srt (l.drop j)) → NilOrRow r → Calls Tryz.prog 22 #[r] W fun q w' => ∃ v', q = .returned (.tuple #[v', .int .i64 0]) ∧ Fr W w' ∧ IsRow w' v' (SM.srt l) ∧ NilOrRow v' := by
        intro W r h1 h2
        have h := sort_in2 r _ W h1 h2 (by omega)
        rw [e12, s12] at h
        exact h
      have c5 : ∀ W r, IsRow W r (SM.srt l) → NilOrRow r → Calls Tryz.prog 22 #[r] W fun q w' => ∃ v', q = .returned (.tuple #[v', .int .i64 0]) ∧ Fr W w' ∧ IsRow w' v' (SM.srt l) ∧ NilOrRow v' := by
        intro W r h1 h2
        have h := sort_in2 r _ W h1 h2 (by rw [SM.srt_len]; omega)
        rw [es, ss] at h
        exact h
      have hlen : (SM.srt (l.take j)).length + (SM.srt (l.drop j)).length ≤ 40 := by rw [← List.length_append, l12]; exact h40
      have hlm : (SM.srt l).length ≤ 40 := by rw [SM.srt_len]; exact h40
      by_cases hz : cap = j
      · refine core a a l.length cap 0 j _ _ _ w hT hj hcap (Or.inl ⟨hz, by omega, rfl, rfl⟩) hlen hlm c1 c2 (fun W f => ?_) c4 c5
        have hd : l.drop j = [] := List.drop_of_length_le (by omega)
        have hI : IsRow W (.slice a (l.length - j) 0) (l.drop j) := ⟨a, 0, by rw [List.length_drop], Or.inl hd⟩
        have nj : NilOrRow (.slice a (l.length - j) 0) := by
          cases a with
          | none => left; rw [show l.length - j = 0 by omega]
          | some A => exact Or.inr ⟨A, _, _, rfl⟩
        have h := sort_in2 _ _ W hI nj (by rw [List.length_drop]; omega)
        rw [ed, sd] at h
        exact h
      · rcases hn with h | ⟨A, n, c, h, _⟩
        · simp only [Value.slice.injEq] at h
          exact absurd (show cap = j by omega) hz
        · simp only [Value.slice.injEq] at h
          obtain ⟨rfl, _, _⟩ := h
          refine core (some A) (some (A.add (j * 3))) l.length cap (cap - j) j _ _ _ w hT hj hcap (Or.inr ⟨A, hz, rfl, rfl, rfl⟩) hlen hlm c1 c2 (fun W f => ?_) c4 c5
          have h := sort_in2 _ _ W ((drop_row j hj hr').fr f) (Or.inr ⟨_, _, _, rfl⟩) (by rw [List.length_drop]; omega)
          rw [ed, sd] at h
          exact h
    · exact coreOut a l.length cap k (sErr l) _ w hT (by omega) c1
  · exact coreOut a l.length cap k (sErr l) _ w hT (Or.inl he) c1

set_option maxRecDepth 100000 in
theorem lifted (os : Os) (started : os.Started) (H : Type) (enc : TypeId × Value → H) :
    ReturnsInHanded {} Tryz.checked os 10 .any (fun w args => (Rows.sortPartsSpec.pre enc Tryz.prog Tryz.f10 [] false w args ∧ laidMetH Tryz.prog Rows.sortPartsRow.laid w) ∧ sizedMet enc Tryz.prog Tryz.f10 (OpenSpec.ofChange Rows.sortPartsSpec) false w args)
      (Rows.sortPartsSpec.post enc Tryz.prog Tryz.f10 false true false false) := by
  refine returnsInHanded_of_change_and (C := Tryz.checked) (X := fun w _ => laidMetH Tryz.prog Rows.sortPartsRow.laid w) (fun _ _ _ hh h => h.of_heap hh) own started (by kernel_rfl) Tryz.func10
    (ChangeSpec.witness_shaped (enc := enc) (C := Tryz.checked) (os := os) (X := fun w _ => laidMetH Tryz.prog Rows.sortPartsRow.laid w) false (World.laidAll Tryz.prog os Rows.sortPartsRow.laid) #[.slice none 0 0, .int .i64 0] 8 (World.laidAll_os _ _ _)
      (World.shaped_of_ZipB (by kernel_rfl) (by kernel_rfl)) (by kernel_rfl) (by kernel_rfl) (by kernel_rfl)
      (by rw [MakeChecks.laidMetH_plain _ _ _ (by kernel_rfl)]; exact laidMet_laidAll _ (by kernel_rfl) (by kernel_rfl))) ?_
  intro W base args ds gs before hval0 hW hcnd hsz0 hL _
  have hT : Tb W := tabs_of_laid hL
  have hval : ∀ (j : Nat) t v, Tryz.f10.params[j]? = some t → args[j]? = some v → Value.okWide Tryz.prog W .any base t v := hval0
  have hsz : (DataW.weightsEach Tryz.prog (Tryz.f10.params.toList ++ Rows.sortPartsSpec.plain.varTypes Tryz.prog) (ds ++ gs)).all (· ≤ reachBytes) = true := hsz0
  have hW' := hW
  obtain ⟨p, q, hA0, hV, rfl, hfz, hnd⟩ := hW
  have hA : DataW.TrodAll enc Tryz.prog W 0 (fun _ => true) true Tryz.f10.params.toList args.toList ds p := hA0
  rw [Tryz.params10] at hA hval hsz
  obtain ⟨v0, vs0, d0, ds0, p0, q0, hargs, rfl, rfl, h0, r0⟩ := trodAll_cons hA
  obtain ⟨v1, vs1, d1, ds1, p1, q1, rfl, rfl, rfl, h1, r1⟩ := trodAll_cons r0
  obtain ⟨rfl, rfl, rfl⟩ := trodAll_nil r1
  obtain rfl : args = #[v0, v1] := by cases args; simp_all
  obtain ⟨rfl, rfl⟩ := trodVars_none hV
  obtain ⟨l0, rw0, wd0, ln0, sl0, dd0⟩ := open_row (hval 0 28 v0 rfl rfl) h0
  obtain ⟨a1, rfl, rfl, rfl, w1⟩ := open_int Tryz.underlying3 (hval 1 3 v1 rfl rfl) h1
  have b0 : l0.length * 32 ≤ 140737488351232 := by
    rcases dd0 with ⟨_, rfl⟩ | ⟨es, sp, hd, hl⟩
    · simp
    · have h := sized_slice hsz (j := 0) (t := 28) rfl (by rw [hd]; rfl) Tryz.underlying28
      rw [Tryz.bytesVal] at h
      unfold reachBytes at h
      omega
  clear hA0 hval0 hsz0
  refine (walk v0 l0 a1 W hT rw0 sl0 b0 (open_nilrow (hval 0 28 v0 rfl rfl) h0) (wf_i64 w1)).mono fun e W' ⟨he, bel⟩ => ?_
  subst he
  exact ⟨_, rfl, _, _, _, [], _, [], hW', trodAll_mk1 (shut_bool Tryz.underlying4 _), (trodAll_cons_mk (shut_row h0 bel) (trodAll_cons_mk (shut_int Tryz.underlying3 w1) trodAll_mk0)), rfl, Below.frame bel _, fun h => by cases h⟩

theorem over : Rows.sortPartsRow.holds Tryz.pinned (OpenSpec.ofChange Rows.sortPartsSpec) :=
  OpenClaim.holds_of_wide 10 Tryz.f10 rfl rfl rfl rfl rfl rfl rfl ⟨rfl, rfl, rfl, rfl, rfl⟩ rfl rfl rfl rfl rfl (by kernel_rfl) Tryz.func10 (by kernel_rfl)
    (of_decide_eq_true (by kernel_rfl)) (by unfold Func.isWrapper; first | (rw [if_pos (by decide +kernel)]; kernel_rfl) | (rw [if_neg (by decide +kernel)]; exact ⟨rfl, rfl⟩))
    (fun os started H enc _ => lifted os started H enc)

theorem card : Rows.SortPartsCardSaid :=
  Claim7.holds_tied_plain_at .later [] [.data, .data, .data, .sentinel, .sentinel] true (true, "096a2825e3b49c34390402dbfe12fba8205c45b11441fe7016cc1e7c1d5b3e22") true
    over (fun _ h => by cases h) (by kernel_rfl) (fun _ h => by cases h) sortParts_row_tie rfl ⟨rfl, rfl⟩ (by kernel_rfl) rfl
    (fun f fn hf hfn => by
      obtain rfl : f = 10 := Option.some.inj ((show Tryz.prog.funcNamed "starling/starlinglaw.SortParts" = some 10 by kernel_rfl).symm.trans hf) |>.symm
      obtain rfl : fn = Tryz.f10 := (Option.some.inj (Tryz.func10.symm.trans hfn)).symm
      exact ⟨by kernel_rfl, fun j t ht => by
        rw [Tryz.params10] at ht
        have hm : t ∈ [28, 3] := by simpa using Array.mem_of_getElem? ht
        have hall : ([28, 3].all fun u => !Tryz.prog.wantsStandIn u) = true := by kernel_rfl
        exact (show Tryz.prog.wantsStandIn t = false by simpa using List.all_eq_true.1 hall t hm)⟩)
    (by kernel_rfl)

end Go.Proofs.YtjadmefiilkgmaaGreatDoor.sortPartsProof
namespace Go.Proofs.YtjadmefiilkgmaaGreatDoor
theorem sortParts_holds : Rows.SortPartsCardSaid := sortPartsProof.card
#print axioms sortParts_holds
end Go.Proofs.YtjadmefiilkgmaaGreatDoor
