/-
  Parts that stand for the pieces of a text: standFor, and Match.
-/
import Derived.Test.YtgjgmaadogkjfaaDoorParts
import Derived.WalkMore
namespace Go.Proofs.YtgjgmaadogkjfaaDoor
open Go.ChangeShapes Go.WideShapes Go.ChangeAt Go.RowKit Go.Shelf
set_option linter.unusedVariables false

/-- a slice value stands for a list of parts -/
def IsPt (w : World) (v : Value) (l : List LK.Part) : Prop :=
  ∃ (a : Option Addr) (cap : Nat), v = .slice a l.length cap ∧ l.length ≤ cap ∧ (l = [] ∨ ∃ b o, a = some ⟨b, o, none⟩ ∧ b < w.heap.size ∧ ∀ i q, l[i]? = some q → w.cell? ⟨b, o + i * 2, none⟩ = some (.int .i32 q.1) ∧ w.cell? ⟨b, o + i * 2 + 1, none⟩ = some (sv q.2))
theorem IsPt.fr {w w' : World} {v : Value} {l : List LK.Part} (h : IsPt w v l) (f : Fr w w') : IsPt w' v l := by
  obtain ⟨a, cap, rfl, hc, h0 | ⟨b, o, rfl, hb, hcl⟩⟩ := h
  · exact ⟨a, cap, rfl, hc, Or.inl h0⟩
  · exact ⟨_, cap, rfl, hc, Or.inr ⟨b, o, rfl, Nat.lt_of_lt_of_le hb f.size, fun i q hi => ⟨(Below.cell f (p := ⟨b, o + i * 2, none⟩) hb).trans (hcl i q hi).1, (Below.cell f (p := ⟨b, o + i * 2 + 1, none⟩) hb).trans (hcl i q hi).2⟩⟩⟩
theorem prtV_at (l : List LK.Part) (i : Nat) (q : LK.Part) (h : l[i]? = some q) : (prtV l)[i * 2]? = some (.int .i32 q.1) ∧ (prtV l)[i * 2 + 1]? = some (sv q.2) := by
  induction l generalizing i with
  | nil => simp at h
  | cons p l ih =>
    cases i with
    | zero => simp at h; subst h; simp [prtV]
    | succ i =>
      have := ih i (by simpa using h)
      have e : prtV (p :: l) = .int .i32 p.1 :: sv p.2 :: prtV l := by simp [prtV]
      rw [e, show (i + 1) * 2 = i * 2 + 1 + 1 by omega, show i * 2 + 1 + 1 + 1 = (i * 2 + 1) + 1 + 1 by omega]
      simpa using this
theorem pt_of_own {w : World} {base : Nat} {v : Value} {l : List LK.Part} (h : w.ownsRow base 58 2 v l.length (prtV l)) : IsPt w v l := by
  have hl := h.1
  rcases h.2 with ⟨rfl, h0⟩ | ⟨g, cap, cur, rfl, hb, hg, h2⟩
  · have : l = [] := List.eq_nil_of_length_eq_zero h0
    subst this
    exact ⟨none, 0, rfl, Nat.le_refl _, Or.inl rfl⟩
  · obtain ⟨h3, h4, h5, h6⟩ := h2
    refine ⟨_, cap, rfl, h3, Or.inr ⟨g, 0, rfl, (Array.getElem?_eq_some_iff.1 hg).1, fun i q hi => ?_⟩⟩
    have hil := (List.getElem?_eq_some_iff.1 hi).1
    obtain ⟨c0, c1⟩ := prtV_at l i q hi
    rw [← h6, List.getElem?_take, if_pos (by omega), Array.getElem?_toList] at c0 c1
    constructor
    · simp [World.cell?, hg, c0]
    · simp [World.cell?, hg, c1]

set_option maxRecDepth 100000 in
set_option maxHeartbeats 1000000 in
theorem standClo_any (k : Int) (x : Value) (w : World) (hx : x.oneCell' = true) :
    Calls Tryd.prog 33 #[.agg #[.int .i32 k, x]] w fun e w' => e = .returned (.bool (k != 37)) ∧ Fr w w' := by
  go_enter Tryd.func33, Tryd.ntmps33
  go_wp2
  go_ret
  exact ⟨rfl, (Fr.refl w).alloc _⟩

theorem tl_inj {a b : ByteArray} (h : a.toList = b.toList) : a = b := by
  rw [Lib.toList_data, Lib.toList_data] at h
  cases a with
  | mk a =>
    cases b with
    | mk b => exact congrArg ByteArray.mk (Array.toList_inj.1 h)
theorem all_any (l : List LK.Part) : (l.all fun q => q.1 == 37) = !(l.any fun q => q.1 != 37) := by
  induction l with
  | nil => rfl
  | cons q l ih => simp only [List.all_cons, List.any_cons, ih, Bool.not_or, bne, Bool.not_not]
theorem meas_star (L M p u i : Nat) (hu : u ≤ i) (hp : p < M) : (L - i) * (M + 2) + (M - (p + 1)) < (L - u) * (M + 2) + (M - p) := by
  have h : (L - i) * (M + 2) ≤ (L - u) * (M + 2) := Nat.mul_le_mul_right _ (by omega)
  omega
theorem meas_back (L M p q u : Nat) (hu : u < L) (hq : q ≤ M) : (L - (u + 1)) * (M + 2) + (M - q) < (L - u) * (M + 2) + (M - p) := by
  have h : (L - u) * (M + 2) = (L - (u + 1)) * (M + 2) + (M + 2) := by
    have e : L - u = (L - (u + 1)) + 1 := by omega
    rw [e, Nat.succ_mul]
  omega
theorem Fr.drewN {a b : World} (h : Fr a b) (n : Nat) : Fr a (b.drewN n) := by
  induction n with
  | zero => exact h
  | succ n ih => exact ih.drew

set_option maxRecDepth 100000 in
set_option maxHeartbeats 2000000 in
theorem standFor_any (v u : Value) (P : List LK.Part) (T : List LK.Bs) (w : World) (hP : IsPt w v P) (hT : IsTx w u T) (hp : P.length ≤ 64) (ht : T.length ≤ 64)
    (hcf : ∀ v' l W, IsPt W v' l → l.length ≤ 64 → Calls Tryd.prog 32 #[v', .func (.func 33) #[] #[]] W fun e w' => e = .returned (.bool (l.any fun q => q.1 != 37)) ∧ Fr W w') :
    Calls Tryd.prog 23 #[v, u] w fun e w' => e = .returned (.bool (LK.mt P T)) ∧ Fr w w' := by
  obtain ⟨a, cap, rfl, hcap, hcP⟩ := hP
  obtain ⟨a2, cap2, rfl, hcap2, hcT⟩ := hT
  have HP : Hid _ := hcP
  have HT : Hid _ := hcT
  have HC : Hid _ := hcf
  clear hcP hcT hcf
  go_enter Tryd.func23, Tryd.ntmps23
  go_wp2
  go_step3
  go_wp2
  go_step3
  go_wp2
  go_loopw [5, 6, 7, 8] (fun pv av lv uv wr => ∃ (p i u : Nat) (last : Int), pv = .int .i64 p ∧ av = .int .i64 i ∧ lv = .int .i64 last ∧ uv = .int .i64 u ∧ LK.Inv P T (LK.mt P T) p i last u ∧ Fr w wr) (fun pv _ _ uv _ => (T.length - (intOf uv).toNat) * (P.length + 2) + (P.length - (intOf pv).toNat))
  case atStart => exact ⟨0, 0, 0, -1, rfl, rfl, rfl, rfl, LK.inv_start P T, Fr.refl _⟩
  case round =>
    obtain ⟨p, i, u, last, rfl, rfl, rfl, rfl, hinv, hfr⟩ := hrel
    have hp0 : p ≤ P.length := hinv.1
    have hi0 : i ≤ T.length := hinv.2.1
    have hu0 : u ≤ i := hinv.2.2.1
    have hlast : last = -1 ∨ ∃ k : Nat, last = k := by
      rcases hinv.2.2.2 with ⟨h, _⟩ | ⟨k, h, _⟩
      · exact Or.inl h
      · exact Or.inr ⟨k, h⟩
    by_cases hlt : i < T.length
    · have hltZ : (i : Int) < (T.length : Int) := by omega
      obtain ⟨x, hx⟩ : ∃ x, T[i]? = some x := ⟨T[i], List.getElem?_eq_getElem hlt⟩
      obtain ⟨b2, rfl, hb2, hcT⟩ : ∃ b, a2 = some ⟨b, 0, none⟩ ∧ b < w.heap.size ∧ ∀ i x, T[i]? = some x → w.cell? ⟨b, i, none⟩ = some (sv x) := by
        rcases HT.out with h | h
        · rw [h] at hlt; simp at hlt
        · exact h
      have cx := (Below.cell hfr (p := ⟨b2, i, none⟩) hb2).trans (hcT i x hx)
      clear hcT
      by_cases hpl : p < P.length
      · have hplZ : (p : Int) < (P.length : Int) := by omega
        obtain ⟨q, hq⟩ : ∃ q, P[p]? = some q := ⟨P[p], List.getElem?_eq_getElem hpl⟩
        obtain ⟨b, o, rfl, hb, hcP⟩ : ∃ b o, a = some ⟨b, o, none⟩ ∧ b < w.heap.size ∧ ∀ i q, P[i]? = some q → w.cell? ⟨b, o + i * 2, none⟩ = some (.int .i32 q.1) ∧ w.cell? ⟨b, o + i * 2 + 1, none⟩ = some (sv q.2) := by
          rcases HP.out with h | h
          · rw [h] at hpl; simp at hpl
          · exact h
        have c0 := (Below.cell hfr (p := ⟨b, o + p * 2, none⟩) hb).trans (hcP p q hq).1
        have c1 := (Below.cell hfr (p := ⟨b, o + p * 2 + 1, none⟩) hb).trans (hcP p q hq).2
        clear hcP
        obtain ⟨k, y⟩ := q
        unfold sv at c1 cx
        simp only at c0 c1
        have HI : Hid _ := hinv
        have HQ : Hid _ := hq
        have HX : Hid _ := hx
        have HF : Hid _ := hfr
        clear hinv hq hx hfr
        by_cases h37 : k = 37
        · have b37 : (k == 37) = true := by simp [h37]
          have HI2 : Hid (LK.Inv P T (LK.mt P T) (p + 1) i p i) := LK.inv_star HI.out hlt HQ.out h37
          have hm := meas_star T.length P.length p u i hu0 hpl
          clear HI
          go_wp2
          go_roundw
          case rel => exact ⟨p + 1, i, i, p, by simp, rfl, rfl, rfl, HI2.out, HF.out⟩
          case measure => simpa [intOf] using hm
        · have b37 : (k == 37) = false := by simp [h37]
          by_cases h95 : k = 95
          · have b95 : (k == 95) = true := by simp [h95]
            have HI2 : Hid (LK.Inv P T (LK.mt P T) (p + 1) (i + 1) last u) := LK.inv_one HI.out HX.out HQ.out h37 (by simp [LK.one, h95])
            have hm := meas_star T.length P.length p u u (Nat.le_refl _) hpl
            clear HI
            go_wp2
            go_quiet (fail)
            go_wp2
            go_roundw
            case rel => exact ⟨p + 1, i + 1, u, last, by simp, by simp, rfl, rfl, HI2.out, Fr.drewN HF.out _⟩
            case measure => simpa [intOf] using hm
          · have b95 : (k == 95) = false := by simp [h95]
            by_cases hyx : y = x
            · subst hyx
              have HI2 : Hid (LK.Inv P T (LK.mt P T) (p + 1) (i + 1) last u) := LK.inv_one HI.out HX.out HQ.out h37 (by simp [LK.one])
              have hm := meas_star T.length P.length p u u (Nat.le_refl _) hpl
              clear HI
              go_wp2
              go_quiet (fail)
              go_wp2
              go_roundw
              case rel => exact ⟨p + 1, i + 1, u, last, by simp, by simp, rfl, rfl, HI2.out, Fr.drewN HF.out _⟩
              case measure => simpa [intOf] using hm
            · have hm1 : LK.one (k, y) x = false := by simp [LK.one, h95, hyx]
              have HM : Hid (P.length ≤ p ∨ ∃ q, P[p]? = some q ∧ q.1 ≠ 37 ∧ LK.one q x = false) := Or.inr ⟨(k, y), HQ.out, h37, hm1⟩
              clear hm1
              obtain ⟨sy, hsy⟩ : ∃ sy : ByteArray, sy = ⟨y.toArray⟩ := ⟨_, rfl⟩
              obtain ⟨sx, hsx⟩ : ∃ sx : ByteArray, sx = ⟨x.toArray⟩ := ⟨_, rfl⟩
              have hne : ¬ sy = sx := by
                rw [hsy, hsx]
                intro e
                have := congrArg (fun z => z.data.toList) e
                exact hyx (by simpa using this)
              rw [← hsy] at c1
              rw [← hsx] at cx
              have hne1 : (sy.toList == sx.toList) = false := beq_false_of_ne (fun e => hne (tl_inj e))
              clear hsy hsx
              rcases hlast with h1 | ⟨kk, h1⟩
              · subst h1
                have HR : Hid (LK.mt P T = false) := LK.inv_none HI.out HX.out HM.out
                clear HI
                go_wp2
                go_quiet (fail)
                go_wp2
                try rw [Exit.noGoto_ret]
                go_ret
                exact ⟨by rw [HR.out]; rfl, Fr.drewN HF.out _⟩
              · subst h1
                have HI2 : Hid (LK.Inv P T (LK.mt P T) (kk + 1) (u + 1) kk (u + 1)) := LK.inv_back HI.out HX.out HM.out
                have hkk : kk + 1 ≤ P.length := HI2.out.1
                have hm := meas_back T.length P.length p (kk + 1) u (by omega) hkk
                have hkz : ¬ ((kk : Int) < 0) := by omega
                clear HI
                go_wp2
                go_quiet (fail)
                go_wp2
                go_roundw
                case rel => exact ⟨kk + 1, u + 1, u + 1, kk, by simp, by simp, rfl, by simp, HI2.out, Fr.drewN HF.out _⟩
                case measure => simpa [intOf] using hm
      · have hplZ : ¬ ((p : Int) < (P.length : Int)) := by omega
        have HM : Hid (P.length ≤ p ∨ ∃ q, P[p]? = some q ∧ q.1 ≠ 37 ∧ LK.one q x = false) := Or.inl (by omega)
        have HI : Hid _ := hinv
        have HX : Hid _ := hx
        have HF : Hid _ := hfr
        clear hinv hx hfr
        rcases hlast with h1 | ⟨kk, h1⟩
        · subst h1
          have HR : Hid (LK.mt P T = false) := LK.inv_none HI.out HX.out HM.out
          clear HI
          go_wp2
          go_ret
          exact ⟨by rw [HR.out]; rfl, HF.out⟩
        · subst h1
          have HI2 : Hid (LK.Inv P T (LK.mt P T) (kk + 1) (u + 1) kk (u + 1)) := LK.inv_back HI.out HX.out HM.out
          have hkk : kk + 1 ≤ P.length := HI2.out.1
          have hm := meas_back T.length P.length p (kk + 1) u (by omega) hkk
          have hkz : ¬ ((kk : Int) < 0) := by omega
          clear HI
          go_wp2
          go_roundw
          case rel => exact ⟨kk + 1, u + 1, u + 1, kk, by simp, by simp, rfl, by simp, HI2.out, HF.out⟩
          case measure => simpa [intOf] using hm
    · have hltZ : ¬ ((i : Int) < (T.length : Int)) := by omega
      obtain rfl : i = T.length := by omega
      have HR : Hid (LK.mt P T = !((P.drop p).any fun q => q.1 != 37)) := by
        unfold Hid
        rw [LK.inv_end hinv]
        exact all_any _
      have hdl : (P.drop p).length = P.length - p := List.length_drop
      have hpt0 : cap = p → ∀ c, IsPt wr (.slice a (P.length - p) c) (P.drop p) := fun e c => ⟨a, c, by rw [hdl], by omega, Or.inl (List.drop_eq_nil_of_le (by omega))⟩
      have hpt1 : IsPt wr (.slice (Option.map (fun x => x.add (p * 2)) a) (P.length - p) (cap - p)) (P.drop p) := by
        refine ⟨_, cap - p, by rw [hdl], by omega, ?_⟩
        rcases HP.out with h | ⟨b, o, rfl, hb, hc⟩
        · rw [h]; exact Or.inl (by simp)
        · refine Or.inr ⟨b, o + p * 2, ?_, Nat.lt_of_lt_of_le hb hfr.size, fun i q hi => ?_⟩
          · simp only [Option.map_some, Option.some.injEq]
            unfold Addr.add
            split
            · rename_i h0; simp only [h0, Nat.add_zero]
            · rfl
          · rw [List.getElem?_drop] at hi
            obtain ⟨c0, c1⟩ := hc (p + i) q hi
            rw [show o + p * 2 + i * 2 = o + (p + i) * 2 by omega]
            exact ⟨(Below.cell hfr (p := ⟨b, o + (p + i) * 2, none⟩) hb).trans c0, (Below.cell hfr (p := ⟨b, o + (p + i) * 2 + 1, none⟩) hb).trans c1⟩
      have HF : Hid _ := hfr
      have H0 : Hid _ := hpt0
      have H1 : Hid _ := hpt1
      clear hinv hfr hpt0 hpt1
      go_wp2_with fail
      · refine (HC.out _ (P.drop p) wr (H0.out (by assumption) _) (by omega)).mono ?_
        rintro _ w1 ⟨rfl, hf⟩
        go_wp2
        try rw [Exit.noGoto_ret]
        go_ret
        exact ⟨by rw [HR.out]; rfl, Fr.trans HF.out hf⟩
      · refine (HC.out _ (P.drop p) wr H1.out (by omega)).mono ?_
        rintro _ w1 ⟨rfl, hf⟩
        go_wp2
        try rw [Exit.noGoto_ret]
        go_ret
        exact ⟨by rw [HR.out]; rfl, Fr.trans HF.out hf⟩
end Go.Proofs.YtgjgmaadogkjfaaDoor
