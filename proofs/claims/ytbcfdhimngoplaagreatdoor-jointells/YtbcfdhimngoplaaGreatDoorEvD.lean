/-
  What joined of package eval answers.
-/
import Derived.Test.YtbcfdhimngoplaaGreatDoorEvC
namespace Go.Proofs.YtbcfdhimngoplaaGreatDoor
open Go.ChangeShapes Go.WideShapes Go.ChangeAt Go.RowKit
set_option linter.unusedVariables false
set_option linter.unusedSimpArgs false
set_option maxRecDepth 100000
set_option maxHeartbeats 2000000
namespace EV
open VM
def trs : List Vl → Except Nat (List Int)
 | [] => .ok []
 | v :: r => match tr v with
  | .error c => .error c
  | .ok t => match trs r with
   | .error c => .error c
   | .ok ts => .ok (t :: ts)
def jn (op : Int) (l : List Vl) : Except Nat Int := match trs l with
 | .error c => .error c
 | .ok ts => if op = 16 then .ok (LG.all ts) else if op = 17 then .ok (LG.any ts) else .ok (LG.not (ts.headD 0))
theorem tr_ne {v : Vl} {c : Nat} (h : tr v = .error c) : c ≠ 0 := by
 unfold tr at h
 split at h
 · cases h; decide
 ·
  split at h
  · cases h
  · split at h <;> cases h
theorem trs_len : ∀ {l : List Vl} {ts : List Int}, trs l = .ok ts → ts.length = l.length
 | [], ts, h => by cases h; rfl
 | v :: r, ts, h => by
  unfold trs at h
  split at h
  · cases h
  ·
   split at h
   · cases h
   ·
    rename_i hr
    cases h
    simp [trs_len hr]
theorem trs_step (done : List Int) (v : Vl) (r : List Vl) (R : Except Nat (List Int)) (h : R = (match trs (v :: r) with
  | .error c => .error c
  | .ok ts => .ok (done ++ ts))) : (∀ c, tr v = .error c → R = .error c) ∧ (∀ t, tr v = .ok t → R = (match trs r with
  | .error c => .error c
  | .ok ts => .ok ((done ++ [t]) ++ ts))) := by
 subst h
 refine ⟨fun c hc => ?_, fun t ht => ?_⟩
 · simp only [trs, hc]
 ·
  simp only [trs, ht]
  cases trs r with
  | error c => rfl
  | ok ts => simp
end EV
def cdZ : Cd Int := ⟨1, fun x => [.int .i64 x], by decide, fun _ => rfl, fun x u h => by simp at h; subst h; rfl⟩
theorem isInts_of {w : World} {v : Value} {l : List Int} (h : IsL cdZ w v l) : IsInts w v l := by
 obtain ⟨a, cap, rfl, hc, h0 | ⟨b, o, rfl, hb, hat⟩⟩ := h
 · exact ⟨a, cap, rfl, hc, .inl h0⟩
 · exact ⟨_, cap, rfl, hc, .inr ⟨b, o, rfl, hb, fun i hi => hat i _ (by have := flat_get cdZ l i 0 hi (by decide); simpa [cdZ] using this)⟩⟩
theorem joined_any (op : Int) (v : Value) (l : List VM.Vl) (w : World) (h : IsL cdV w v l) (hp : 0 < l.length) (hl : l.length ≤ 1000000) :
  Calls Tryz.prog 98 #[.int .i64 op, v] w fun e w' => e = .returned (exT (EV.jn op l)) ∧ Fr w w' := by
 have HJ : Hid (EV.jn op l = match EV.trs l with
  | .error c => .error c
  | .ok ts => if op = 16 then .ok (LG.all ts) else if op = 17 then .ok (LG.any ts) else .ok (LG.not (ts.headD 0))) := rfl
 generalize EV.jn op l = R at *
 obtain ⟨a, cap, rfl, hcap, hcs⟩ := h
 have HC := hideP hcs
 have HLen := hideP (fun ts (h : EV.trs l = .ok ts) => EV.trs_len h)
 obtain ⟨T, hT⟩ : ∃ T, EV.trs l = T := ⟨_, rfl⟩
 have HT0 : Hid (T = match EV.trs (l.drop 0) with
  | .error c => .error c
  | .ok ts => .ok ([] ++ ts)) := by
  unfold Hid
  rw [← hT, List.drop_zero]
  cases EV.trs l <;> rfl
 rw [hT] at HJ HLen
 obtain ⟨i0, hi0, hz0, hz1, hz2⟩ := info_parts Tryz.infoElem
 obtain ⟨mc, hmc⟩ : ∃ mc, madeCells (Value.int .i64 0).cells (l.length * 1) = mc := ⟨_, rfl⟩
 have hms : mc.size = l.length * 1 := by rw [← hmc]; exact size_madeCells _ _
 have hmk : ∀ W : World, (Instr.makeSlice 40 (.int .i64 0) (.int .i64 (l.length : Int))).run Tryz.prog W = .ok (.slice (some ⟨W.heap.size, 0, none⟩) 0 l.length) (W.alloc (.cells mc 3)) := by
  intro W
  have hr := run_make (P := Tryz.prog) W 40 3 i0 _ Tryz.underlying40 hi0 hz0 .i64 .i64 0 (l.length : Int) (by omega) (by omega) (by rw [hz2]; omega) (by omega)
  simp only [hz1] at hr
  rw [show (l.length : Int).toNat * 1 = l.length * 1 by omega, hmc] at hr
  exact hr
 have HO1 : Hid ((w.alloc (.cells mc 3)).ownsRow w.heap.size 3 1 (.slice (some ⟨w.heap.size, 0, none⟩) 0 l.length) 0 (flat cdZ [])) := World.ownsRow_made w mc l.length (Nat.le_refl _) (by unfold maxLen; omega) hms
 have F1 := hideP ((Fr.refl w).alloc (.cells mc 3))
 clear hcs hms hmc hT
 go_enter Tryz.func98, Tryz.ntmps98
 go_wp2_with fail
 clear hmk
 generalize w.alloc (.cells mc 3) = W1 at *
 go_loopw [6, 8, 9, 10, 16] (fun tv _ _ _ iv wr => ∃ (i : Nat) (ts : List Int), iv = .int .i64 i ∧ i ≤ l.length ∧ ts.length = i ∧ (T = match EV.trs (l.drop i) with
  | .error c => .error c
  | .ok us => .ok (ts ++ us)) ∧ wr.ownsRow w.heap.size 3 1 tv i (flat cdZ ts) ∧ Fr w wr) (fun _ _ _ _ iv _ => l.length - (intOf iv).toNat)
 case atStart => exact ⟨0, [], rfl, Nat.zero_le _, rfl, HT0.out, HO1.out, F1.out⟩
 case round =>
  obtain ⟨i, ts, rfl, hi, htl, hT, hown, hfr⟩ := hrel
  obtain ⟨fa, fc, rfl⟩ := own_slice hown
  have HTL := hideP htl
  have HT := hideP hT
  have HO := hideP hown
  have HF := hideP hfr
  clear htl hT hown hfr
  by_cases hlt : i < l.length
  ·
   have hlt' : (i : Int) < (l.length : Int) := by omega
   obtain ⟨b, o, rfl, hb, hc⟩ : ∃ b o, a = some ⟨b, o, none⟩ ∧ b < w.heap.size ∧ At cdV w b o l := by
    rcases HC.out with h | h
    · rw [h] at hlt; simp at hlt
    · exact h
   obtain ⟨c0, c1, c2⟩ := (hc.fr hb HF.out).v3 i hlt
   rw [List.drop_eq_getElem_cons hlt] at HT
   obtain ⟨s1, s2⟩ := EV.trs_step ts l[i] (l.drop (i + 1)) T HT.out
   have ci := fun W => truthOf_any l[i] W
   have hne := fun c (h : EV.tr l[i] = .error c) => EV.tr_ne h
   generalize EV.tr l[i] = D at *
   simp only [vlV] at ci
   generalize l[i].k = y0 at *
   generalize l[i].n = y1 at *
   generalize l[i].s = y2 at *
   have FW := hideP (HF.out.alloc (.cells #[.int .i64 y0, .int .i64 y1, .string y2] 56))
   have HOw := hideP (own_fr HO.out ((Fr.refl wr).alloc (.cells #[.int .i64 y0, .int .i64 y1, .string y2] 56)))
   clear hc HT
   cases D with
   | error c =>
    have HZ := hideP (s1 c rfl)
    have e1 : ((c : Int) != 0) = true := by have := hne c rfl; simp; omega
    have e2 : ¬ ((c : Int) = 0) := by have := hne c rfl; omega
    simp only [exT] at ci
    clear s1 s2 hne
    go_wp2_with fail
    refine (ci _).mono ?_
    rintro _ w2 ⟨rfl, f2⟩
    go_wp2_with fail
    go_ret2
    exact ⟨by rw [HJ.out, HZ.out]; rfl, FW.out.trans f2⟩
   | ok t =>
    have HZ := hideP (s2 t rfl)
    simp only [exT] at ci
    clear s1 s2 hne
    go_wp2_with fail
    refine (ci _).mono ?_
    rintro _ w2 ⟨rfl, f2⟩
    have FW2 := hideP (FW.out.trans f2)
    have HLit := hideP (lit_one cdZ w2 t 3)
    have HO2 := hideP (own_fr HOw.out (f2.alloc (.cells #[.int .i64 t] 3)))
    have hsz : w.heap.size ≤ w2.heap.size := FW2.out.size
    clear f2 ci
    go_wp2_with (at_builtin; refine wpList_append_L cdZ rfl _ _ 40 3 i0 _ 8 rfl Tryz.underlying40 hi0 hz0 hz1 hz2 rfl w.heap.size _ i _ rfl HO2.out (.slice (some ⟨w2.heap.size, 0, none⟩) 1 1) [t] rfl HLit.out ?c3 ?c4 ?c5 ?_)
    case c3 => unfold maxLen; simp <;> omega
    case c4 => simp <;> omega
    case c5 => simp <;> omega
    intro v2 wB own2 gr2
    have HN2 := hideP own2
    have FB := hideP (show Fr w wB from Below.grown (FW2.out.alloc _) gr2 (by simp <;> omega) (own_base HO2.out))
    clear own2 gr2
    go_wp2_with fail
    go_roundw
    case rel => exact ⟨i + 1, ts ++ [t], by go_num, by omega, by rw [List.length_append, HTL.out]; rfl, HZ.out, HN2.out, FB.out⟩
    case measure => simp [intOf]; omega
  ·
   obtain rfl : i = l.length := by omega
   have hlt' : ((l.length : Int) < (l.length : Int)) = False := by simp
   have HTe : Hid (T = .ok ts) := by
    unfold Hid
    rw [HT.out, List.drop_length]
    simp [EV.trs]
   have hR := HJ.out
   rw [HTe.out] at hR
   simp only at hR
   have hIs : IsL cdZ wr (.slice fa l.length fc) ts := by
    have h := HO.out
    rw [← HTL.out] at h
    have := isL_own h
    rw [HTL.out] at this
    exact this
   have hii := isInts_of hIs
   have ca := all_any _ ts wr hii (by rw [HTL.out]; omega)
   have cb := any_any _ ts wr hii (by rw [HTL.out]; omega)
   by_cases h16 : op = 16
   ·
    have HR := hideP (hR.trans (if_pos h16))
    subst h16
    clear hR hIs hii cb
    go_wp2_with fail
    refine ca.mono ?_
    rintro _ w2 ⟨rfl, rfl⟩
    go_wp2_with fail
    go_ret2
    exact ⟨by rw [HR.out]; rfl, HF.out⟩
   ·
    have e16 : (op == 16) = false := by simpa using h16
    replace hR := hR.trans (if_neg h16)
    by_cases h17 : op = 17
    ·
     have HR := hideP (hR.trans (if_pos h17))
     subst h17
     clear hR hIs hii ca
     go_wp2_with fail
     refine cb.mono ?_
     rintro _ w2 ⟨rfl, rfl⟩
     go_wp2_with fail
     go_ret2
     exact ⟨by rw [HR.out]; rfl, HF.out⟩
    ·
     have e17 : (op == 17) = false := by simpa using h17
     have HR := hideP (hR.trans (if_neg h17))
     obtain ⟨a9, c9, e9, _, h9⟩ := hIs
     simp only [Value.slice.injEq] at e9
     obtain ⟨rfl, _, rfl⟩ := e9
     have htp : 0 < ts.length := by rw [HTL.out]; exact hp
     obtain ⟨b9, o9, rfl, hb9, hat9⟩ : ∃ b o, fa = some ⟨b, o, none⟩ ∧ b < wr.heap.size ∧ At cdZ wr b o ts := by
      rcases h9 with h | h
      · rw [h] at htp; simp at htp
      · exact h
     have c0 : wr.cell? ⟨b9, o9, none⟩ = some (.int .i64 ts[0]) := by
      have := hat9 0 (.int .i64 ts[0]) (by have := flat_get cdZ ts 0 0 htp (by decide); simpa [cdZ] using this)
      simpa using this
     have hhd : ts.headD 0 = ts[0] := by cases ts with
      | nil => simp at htp
      | cons x r => rfl
     rw [hhd] at HR
     generalize ts[0] = t0 at *
     have cn := fun W => not_any t0 W
     have hlp : (0 : Int) < (l.length : Int) := by omega
     clear hR hii ca cb hat9 h9 hhd
     go_wp2_with fail
     refine (cn _).mono ?_
     rintro _ w2 ⟨rfl, rfl⟩
     go_wp2_with fail
     go_ret2
     exact ⟨by rw [HR.out]; rfl, HF.out⟩
end Go.Proofs.YtbcfdhimngoplaaGreatDoor
