/-
  Prefix and Escape of package like.
-/
import Derived.Test.YtgjgmaadogkjfaaDoorRune
import Derived.Test.YtgjgmaadogkjfaaDoorLkMath2
namespace Go.Proofs.YtgjgmaadogkjfaaDoor
open Go.ChangeShapes Go.WideShapes Go.ChangeAt Go.RowKit Go.Shelf
set_option linter.unusedVariables false
attribute [local go_sem] Oper.semAt_some

theorem Bd.alloc {B b : Nat} {l : List UInt8} {w : World} (h : Bd B b l w) (o : Obj) : Bd B b l (w.alloc o) := h.keep fun k _ hk => Lib.alloc_old w o k hk
theorem Bd.fr {B b : Nat} {l : List UInt8} {w w' : World} (h : Bd B b l w) (f : Fr w w') : Bd B b l w' := h.keep fun k _ hk => f.block k hk
theorem IsPt.below {w w' : World} {v : Value} {l : List LK.Part} (h : IsPt w v l) (f : Below w.heap.size w w') : IsPt w' v l := IsPt.fr h f

theorem pre_step (P : List LK.Part) (i : Nat) (q : LK.Part) (h : P[i]? = some q) (hq : q.1 = 97) (hall : ∀ r ∈ P.take i, r.1 = 97) : (P.take (i + 1)).flatMap (fun r => r.2) = (P.take i).flatMap (fun r => r.2) ++ q.2 ∧ ∀ r ∈ P.take (i + 1), r.1 = 97 := by
  have e : P.take (i + 1) = P.take i ++ [q] := by rw [List.take_add_one, h]; rfl
  rw [e]
  refine ⟨by simp, fun r hr => ?_⟩
  rw [List.mem_append, List.mem_singleton] at hr
  rcases hr with hr | rfl
  · exact hall r hr
  · exact hq
theorem pre_stop (P : List LK.Part) (i : Nat) (q : LK.Part) (h : P[i]? = some q) (hq : q.1 ≠ 97) (hall : ∀ r ∈ P.take i, r.1 = 97) : LK.pre P = (P.take i).flatMap (fun r => r.2) ∧ LK.whole P = false := by
  have hd := LK.drop_at h
  have e : P = P.take i ++ q :: P.drop (i + 1) := by rw [← hd, List.take_append_drop]
  constructor
  · unfold LK.pre
    conv => lhs; rw [e]
    rw [List.takeWhile_append_of_pos (fun r hr => by rw [hall r hr]; rfl), List.takeWhile_cons_of_neg (by simp [hq]), List.append_nil]
  · unfold LK.whole
    rw [e, List.all_append, List.all_cons]
    simp [hq]
theorem pre_all (P : List LK.Part) (hall : ∀ r ∈ P.take P.length, r.1 = 97) : LK.pre P = (P.take P.length).flatMap (fun r => r.2) ∧ LK.whole P = true := by
  rw [List.take_length] at hall ⊢
  constructor
  · unfold LK.pre
    have := List.takeWhile_append_of_pos (l₂ := []) (p := fun q : LK.Part => q.1 == 97) (l₁ := P) (fun r hr => by rw [hall r hr]; rfl)
    rw [List.append_nil] at this
    rw [this]; simp
  · unfold LK.whole
    exact List.all_eq_true.2 fun r hr => by rw [hall r hr]; rfl
theorem flat_len (P : List LK.Part) (i : Nat) (h4 : ∀ q ∈ P, q.2.length ≤ 4) : ((P.take i).flatMap (fun r => r.2)).length ≤ 4 * P.length := by
  have : ∀ l : List LK.Part, (∀ q ∈ l, q.2.length ≤ 4) → (l.flatMap (fun r => r.2)).length ≤ 4 * l.length := by
    intro l
    induction l with
    | nil => intro _; simp
    | cons q l ih =>
      intro h
      have h1 := ih (fun r hr => h r (List.mem_cons_of_mem _ hr))
      have h2 := h q List.mem_cons_self
      rw [List.flatMap_cons, List.length_append, List.length_cons]
      omega
  have h1 := this (P.take i) (fun q hq => h4 q (List.mem_of_mem_take hq))
  rw [List.length_take] at h1
  omega

def pfx (S : ByteArray) : LK.Bs := if perr S = 0 then LK.pre (prts S) else []
def whl (S : ByteArray) : Bool := decide (perr S = 0) && LK.whole (prts S)

set_option maxRecDepth 100000 in
set_option maxHeartbeats 2000000 in
theorem prefix_any (S : ByteArray) (w : World) (hb : S.size ≤ 9223372036854775807) (hT : Tb w) :
    Calls Tryd.prog 15 #[.string S] w fun e W' => e = .returned (.tuple #[.string ⟨(pfx S).toArray⟩, .bool (whl S), .int .i64 (perr S)]) ∧ Fr w W' := by
  have hpo := partsOf_any S w hb hT
  by_cases hpe : perr S = 0
  · have hpl := prts_len S hpe
    have HPE : Hid _ := hpe
    have h4 : ∀ q ∈ prts S, q.2.length ≤ 4 := fun q hq => LK.pc_four _ _ (LK.run_mem _ q hq)
    have e1 : pfx S = LK.pre (prts S) := by unfold pfx; rw [if_pos hpe]
    have e2 : whl S = LK.whole (prts S) := by unfold whl; rw [hpe]; simp
    rw [e1, e2, hpe]
    rw [hpe] at hpo
    obtain ⟨P, hP⟩ : ∃ P, prts S = P := ⟨_, rfl⟩
    rw [hP] at h4 hpl ⊢
    clear e1 e2 hpe
    go_enter Tryd.func15, Tryd.ntmps15
    go_wp2_with (go_at_call 22; refine hpo.mono ?_)
    rintro _ w1 ⟨v, rfl, hpo1⟩
    have hf := hpo1.2
    have hpt := hpo1.1 HPE.out
    rw [hP] at hpt
    obtain ⟨a, cap, rfl, hcap, hcP⟩ := hpt
    have HP : Hid _ := hcP
    clear hpo hpo1 hcP hP HPE
    have hbd := Bd.fresh w1
    have hbl : Below w1.heap.size w1 (w1.alloc (.cells #[.pointer none, .slice none 0 0] 56)) := (Below.refl _ _).alloc (Nat.le_refl _) _
    have HBD : Hid _ := hbd
    have HBL : Hid _ := hbl
    clear hbd hbl
    go_wp2
    go_loopw [20] (fun iv wr => ∃ i : Nat, iv = .int .i64 i ∧ i ≤ P.length ∧ (∀ r ∈ P.take i, r.1 = 97) ∧ Bd w1.heap.size w1.heap.size ((P.take i).flatMap fun r => r.2) wr ∧ Below w1.heap.size w1 wr) (fun iv _ => P.length - (intOf iv).toNat)
    case atStart => exact ⟨0, rfl, Nat.zero_le _, fun r hr => by simp at hr, by rw [List.take_zero]; exact HBD.out, HBL.out⟩
    case round =>
      obtain ⟨i, rfl, hi, hall, hbd, hbl⟩ := hrel
      have hfl := flat_len P i h4
      have HA : Hid _ := hall
      have HB : Hid (Bd w1.heap.size w1.heap.size ((P.take i).flatMap fun r => r.2) wr) := hbd
      have HL : Hid _ := hbl
      clear hall hbd
      by_cases hlt : i < P.length
      · have hltZ : (i : Int) < (P.length : Int) := by omega
        obtain ⟨q, hq⟩ : ∃ q, P[i]? = some q := ⟨P[i], List.getElem?_eq_getElem hlt⟩
        obtain ⟨b, o, rfl, hb1, hc⟩ : ∃ b o, a = some ⟨b, o, none⟩ ∧ b < w1.heap.size ∧ ∀ i q, P[i]? = some q → w1.cell? ⟨b, o + i * 2, none⟩ = some (.int .i32 q.1) ∧ w1.cell? ⟨b, o + i * 2 + 1, none⟩ = some (sv q.2) := by
          rcases HP.out with h | h
          · rw [h] at hlt; simp at hlt
          · exact h
        have c0 := (Below.cell hbl (p := ⟨b, o + i * 2, none⟩) hb1).trans (hc i q hq).1
        have c1 := (Below.cell hbl (p := ⟨b, o + i * 2 + 1, none⟩) hb1).trans (hc i q hq).2
        have hq4 := h4 q (List.mem_of_getElem? hq)
        clear hc hbl h4
        have HQ : Hid _ := hq
        clear hq
        obtain ⟨k, y⟩ := q
        unfold sv at c1
        simp only at c0 c1 hq4
        have hbz := HL.out.size
        by_cases h97 : k = 97
        · subst h97
          obtain ⟨s1, s2⟩ := pre_step P i _ HQ.out rfl HA.out
          have HS1 : Hid _ := s1
          have HS2 : Hid _ := s2
          clear s1 s2 HA
          have hws := writeString_any w1.heap.size w1.heap.size ((P.take i).flatMap fun r => r.2) ⟨y.toArray⟩ (wr.alloc (.cells #[.int .i32 97, .string ⟨y.toArray⟩] 58)) (Bd.alloc HB.out _) (by have : (⟨y.toArray⟩ : ByteArray).size = y.length := rfl; omega) (by simp; omega)
          go_wp2_with (go_at_call 28; refine hws.mono ?_; rintro _ w2 ⟨rfl, hb2, hl2, _⟩)
          go_roundw
          case rel => exact ⟨i + 1, by simp, hlt, HS2.out, by rw [HS1.out]; exact hb2, HL.out.trans (((Below.refl _ _).alloc hbz _).trans hl2)⟩
          case measure => simp [intOf]; omega
        · have b97 : (k != 97) = true := by simp [h97]
          obtain ⟨s1, s2⟩ := pre_stop P i _ HQ.out h97 HA.out
          have HS1 : Hid _ := s1
          have HS2 : Hid _ := s2
          clear s1 s2 HA
          have hst := string_any w1.heap.size w1.heap.size ((P.take i).flatMap fun r => r.2) (wr.alloc (.cells #[.int .i32 k, .string ⟨y.toArray⟩] 58)) (Bd.alloc HB.out _) (by simp; omega)
          go_wp2_with (go_at_call 27; refine hst.mono ?_; rintro _ w2 ⟨rfl, hl2⟩)
          go_ret3
          exact ⟨by rw [HS1.out, HS2.out]; rfl, Fr.trans hf (HL.out.trans (((Below.refl _ _).alloc hbz _).trans hl2))⟩
      · have hltZ : ¬ (i : Int) < (P.length : Int) := by omega
        obtain rfl : i = P.length := by omega
        obtain ⟨s1, s2⟩ := pre_all P HA.out
        have HS1 : Hid _ := s1
        have HS2 : Hid _ := s2
        clear s1 s2 HA hbl h4
        have hst := string_any w1.heap.size w1.heap.size ((P.take P.length).flatMap fun r => r.2) wr HB.out HL.out.size
        rw [← HS1.out] at hst
        go_wp2_with (go_at_call 27; refine hst.mono ?_; rintro _ w2 ⟨rfl, hl2⟩)
        go_ret3
        exact ⟨by rw [HS2.out]; rfl, Fr.trans hf (HL.out.trans hl2)⟩
  · have e1 : pfx S = [] := by unfold pfx; rw [if_neg hpe]
    have e2 : whl S = false := by unfold whl; simp [hpe]
    rw [e1, e2]
    generalize perr S = pp at hpo hpe ⊢
    have hz : ((pp : Int) != 0) = true := by simp [hpe]
    have hz2 : ¬ ((pp : Int) = 0) := by omega
    clear e1 e2
    go_enter Tryd.func15, Tryd.ntmps15
    go_wp2_with (go_at_call 22; refine hpo.mono ?_)
    rintro _ w1 ⟨v, rfl, hpo1⟩
    have hf := hpo1.2
    clear hpo hpo1
    go_wp2
    go_ret3
    exact ⟨rfl, hf⟩
end Go.Proofs.YtgjgmaadogkjfaaDoor
