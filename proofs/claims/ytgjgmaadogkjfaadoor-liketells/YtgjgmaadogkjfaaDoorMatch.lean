/-
  slices.ContainsFunc over parts, partsOf with its limit, and Match.
-/
import Derived.Test.YtgjgmaadogkjfaaDoorStand
namespace Go.Proofs.YtgjgmaadogkjfaaDoor
open Go.ChangeShapes Go.WideShapes Go.ChangeAt Go.RowKit Go.Shelf
set_option linter.unusedVariables false

set_option maxRecDepth 100000 in
set_option maxHeartbeats 2000000 in
theorem indexFunc_any (v : Value) (P : List LK.Part) (w : World) (hP : IsPt w v P) (hp : P.length ≤ 64) :
    Calls Tryd.prog 40 #[v, .func (.func 33) #[] #[]] w fun e w' => ∃ j : Int, e = .returned (.int .i64 j) ∧ (P.any fun q => q.1 != 37) = decide (0 ≤ j) ∧ Fr w w' := by
  obtain ⟨a, cap, rfl, hcap, hcP⟩ := hP
  have HP : Hid _ := hcP
  clear hcP
  go_enter Tryd.func40, Tryd.ntmps40
  go_wp2
  go_loopw [8] (fun iv wr => ∃ (i : Nat), iv = .int .i64 i ∧ i ≤ P.length ∧ (P.any fun q => q.1 != 37) = ((P.drop i).any fun q => q.1 != 37) ∧ Fr w wr) (fun iv _ => P.length - (intOf iv).toNat)
  case atStart => exact ⟨0, rfl, Nat.zero_le _, by simp, Fr.refl _⟩
  case round =>
    obtain ⟨i, rfl, hi, hall, hfr⟩ := hrel
    have HA : Hid _ := hall
    have HF : Hid _ := hfr
    clear hall
    by_cases hlt : i < P.length
    · have hltZ : (i : Int) < (P.length : Int) := by omega
      obtain ⟨q, hq⟩ : ∃ q, P[i]? = some q := ⟨P[i], List.getElem?_eq_getElem hlt⟩
      obtain ⟨b, o, rfl, hb, hc⟩ : ∃ b o, a = some ⟨b, o, none⟩ ∧ b < w.heap.size ∧ ∀ i q, P[i]? = some q → w.cell? ⟨b, o + i * 2, none⟩ = some (.int .i32 q.1) ∧ w.cell? ⟨b, o + i * 2 + 1, none⟩ = some (sv q.2) := by
        rcases HP.out with h | h
        · rw [h] at hlt; simp at hlt
        · exact h
      have c0 := (Below.cell hfr (p := ⟨b, o + i * 2, none⟩) hb).trans (hc i q hq).1
      have c1 := (Below.cell hfr (p := ⟨b, o + i * 2 + 1, none⟩) hb).trans (hc i q hq).2
      have hdr : P.drop i = q :: P.drop (i + 1) := LK.drop_at hq
      have HD : Hid ((P.any fun q => q.1 != 37) = ((q.1 != 37) || (P.drop (i + 1)).any fun q => q.1 != 37)) := by
        unfold Hid
        rw [HA.out, hdr, List.any_cons]
      clear hc hfr hdr hq HA
      obtain ⟨k, y⟩ := q
      unfold sv at c1
      simp only at c0 c1
      by_cases h37 : k = 37
      · subst h37
        have hcl : Calls Tryd.prog 33 #[.agg #[.int .i32 37, .string ⟨y.toArray⟩]] wr fun e w' => e = .returned (.bool false) ∧ Fr wr w' := standClo_any 37 (.string ⟨y.toArray⟩) wr rfl
        go_wp2_with (go_at_call 33; refine hcl.mono ?_; rintro _ w1 ⟨rfl, hf⟩)
        go_roundw
        case rel => exact ⟨i + 1, by simp, hlt, by rw [HD.out]; simp, Fr.trans HF.out hf⟩
        case measure => simp [intOf]; omega
      · have b37 : (k != 37) = true := by simp [h37]
        have hcl := standClo_any k (.string ⟨y.toArray⟩) wr rfl
        rw [b37] at hcl
        go_wp2_with (go_at_call 33; refine hcl.mono ?_; rintro _ w1 ⟨rfl, hf⟩)
        go_ret
        exact ⟨i, rfl, by rw [HD.out]; simp [b37], Fr.trans HF.out hf⟩
    · have hltZ : ¬ (i : Int) < (P.length : Int) := by omega
      have HD : Hid ((P.any fun q => q.1 != 37) = false) := by
        unfold Hid
        rw [HA.out, List.drop_eq_nil_of_le (by omega)]
        rfl
      clear HA hfr
      go_wp2
      go_ret
      exact ⟨-1, rfl, by rw [HD.out]; rfl, HF.out⟩

set_option maxHeartbeats 1000000 in
theorem containsFunc_any (v : Value) (P : List LK.Part) (w : World) (hP : IsPt w v P) (hp : P.length ≤ 64) :
    Calls Tryd.prog 32 #[v, .func (.func 33) #[] #[]] w fun e w' => e = .returned (.bool (P.any fun q => q.1 != 37)) ∧ Fr w w' := by
  have hix := indexFunc_any v P w hP hp
  clear hP
  go_enter Tryd.func32, Tryd.ntmps32
  go_wp2_with (go_at_call 40; refine hix.mono ?_)
  rintro _ w1 ⟨j, rfl, hj, hf⟩
  have HJ : Hid _ := hj
  clear hj hix
  go_wp2
  go_ret
  exact ⟨by rw [HJ.out]; rfl, hf⟩

theorem standFor_all (v u : Value) (P : List LK.Part) (T : List LK.Bs) (w : World) (hP : IsPt w v P) (hT : IsTx w u T) (hp : P.length ≤ 64) (ht : T.length ≤ 64) :
    Calls Tryd.prog 23 #[v, u] w fun e w' => e = .returned (.bool (LK.mt P T)) ∧ Fr w w' :=
  standFor_any v u P T w hP hT hp ht fun v' l W h hl => containsFunc_any v' l W h hl

/-- the error of a pattern -/
def perr (S : ByteArray) : Nat := if 32 < S.size then 2 else if (LK.run (LK.pc S.data.toList)).1 = true then 1 else 0
/-- the parts of a pattern that is right -/
def prts (S : ByteArray) : List LK.Part := (LK.run (LK.pc S.data.toList)).2
theorem prts_len (S : ByteArray) (h : perr S = 0) : (prts S).length ≤ 32 := by
  have h1 := LK.run_len (LK.pc S.data.toList)
  have h2 := LK.pc_len S.data.toList
  have h3 : S.data.toList.length = S.size := by rw [Array.length_toList]; rfl
  unfold perr at h
  unfold prts
  split at h
  · cases h
  · omega

/-- what partsOf leaves -/
def PO (S : ByteArray) (w : World) (v : Value) (W' : World) : Prop := (perr S = 0 → IsPt W' v (prts S)) ∧ Fr w W'

set_option maxRecDepth 100000 in
set_option maxHeartbeats 1000000 in
theorem partsOf_any (S : ByteArray) (w : World) (hb : S.size ≤ 9223372036854775807) (hT : Tb w) :
    Calls Tryd.prog 22 #[.string S] w fun e W' => ∃ v, e = .returned (.tuple #[v, .int .i64 (perr S)]) ∧ PO S w v W' := by
  by_cases h32 : 32 < S.size
  · have hz : (32 : Int) < (S.size : Int) := by omega
    have hpe : perr S = 2 := by unfold perr; rw [if_pos h32]
    rw [hpe]
    go_enter Tryd.func22, Tryd.ntmps22
    go_wp2
    go_ret2
    exact ⟨_, rfl, ⟨fun h => (by rw [hpe] at h; cases h), Fr.refl _⟩⟩
  · refine (callsIn_wide.1 (partsOf_in 5 (Nat.le_refl _) S (by omega) w hT)).mono ?_
    rintro e W' (⟨h1, rfl, hf⟩ | ⟨h1, v, rfl, hr, hf⟩)
    · have hpe : perr S = 1 := by unfold perr; rw [if_neg h32, if_pos h1]
      rw [hpe]
      exact ⟨_, rfl, ⟨fun h => (by rw [hpe] at h; cases h), hf⟩⟩
    · have hpe : perr S = 0 := by unfold perr; rw [if_neg h32, if_neg (by rw [h1]; decide)]
      rw [hpe]
      exact ⟨v, rfl, ⟨fun _ => pt_of_own hr, hf⟩⟩

/-- the error of Match -/
def merr (S s : ByteArray) : Nat := if perr S ≠ 0 then perr S else if 16 < s.size then 2 else 0
/-- does a pattern stand for a text? -/
def mtc (S s : ByteArray) : Bool := LK.mt (prts S) (LK.pc s.data.toList)

set_option maxRecDepth 100000 in
set_option maxHeartbeats 2000000 in
theorem match_any (S s : ByteArray) (w : World) (hb : S.size ≤ 9223372036854775807) (hb2 : s.size ≤ 9223372036854775807) (hT : Tb w) :
    Calls Tryd.prog 10 #[.string S, .string s] w fun e W' => e = .returned (.tuple #[.bool (decide (merr S s = 0) && mtc S s), .int .i64 (merr S s)]) ∧ Fr w W' := by
  have hpo := partsOf_any S w hb hT
  by_cases hpe : perr S = 0
  · have hpl := prts_len S hpe
    have HPE : Hid _ := hpe
    rw [hpe] at hpo
    by_cases h16 : 16 < s.size
    · have hme : merr S s = 2 := by unfold merr; rw [if_neg (by rw [HPE.out]; decide), if_pos h16]
      rw [hme]
      clear hpe hme
      go_enter Tryd.func10, Tryd.ntmps10
      go_wp2_with (go_at_call 22; refine hpo.mono ?_)
      rintro _ w1 ⟨v, rfl, hpo1⟩
      have hf := hpo1.2
      have hpc := likePieces_any s w1 hb2 (hT.fr hf)
      rw [if_pos h16, if_pos h16] at hpc
      clear hpo hpo1
      go_wp2_with (go_at_call 14; refine hpc.mono ?_)
      rintro _ w2 ⟨u, l, rfl, _, _, hf2⟩
      clear hpc
      go_wp2
      go_ret2
      exact ⟨rfl, hf.trans hf2⟩
    · have hme : merr S s = 0 := by unfold merr; rw [if_neg (by rw [HPE.out]; decide), if_neg h16]
      rw [hme]
      have htl : (LK.pc s.data.toList).length ≤ 16 := by
        have h2 := LK.pc_len s.data.toList
        have h3 : s.data.toList.length = s.size := by rw [Array.length_toList]; rfl
        omega
      clear hpe hme
      go_enter Tryd.func10, Tryd.ntmps10
      go_wp2_with (go_at_call 22; refine hpo.mono ?_)
      rintro _ w1 ⟨v, rfl, hpo1⟩
      have hf := hpo1.2
      have hpt1 := hpo1.1 HPE.out
      have hpc := likePieces_any s w1 hb2 (hT.fr hf)
      rw [if_neg h16, if_neg h16] at hpc
      clear hpo hpo1
      go_wp2_with (go_at_call 14; refine hpc.mono ?_)
      rintro _ w2 ⟨u, l, rfl, rfl, htx, hf2⟩
      have hsf := standFor_all v u (prts S) (LK.pc s.data.toList) w2 (hpt1.fr hf2) htx (by omega) (by omega)
      have e0 : LK.mt (prts S) (LK.pc s.data.toList) = mtc S s := rfl
      rw [e0] at hsf
      obtain ⟨bb, hbb⟩ : ∃ bb, mtc S s = bb := ⟨_, rfl⟩
      rw [hbb] at hsf
      have HBB : Hid _ := hbb
      clear hbb
      clear hpc hpt1 htx e0
      go_wp2_with (go_at_call 23; refine hsf.mono ?_)
      rintro _ w3 ⟨rfl, hf3⟩
      go_wp2
      go_ret2
      exact ⟨by rw [HBB.out]; simp, (hf.trans hf2).trans hf3⟩
  · have hme : merr S s = perr S := by unfold merr; rw [if_pos hpe]
    rw [hme]
    generalize hpp : perr S = pp at hpo hpe
    have hz : ((pp : Int) != 0) = true := by simp [hpe]
    have hz2 : ¬ ((pp : Int) = 0) := by omega
    have hd : decide (pp = 0) = false := by simp [hpe]
    rw [hd]
    clear hme hpp
    go_enter Tryd.func10, Tryd.ntmps10
    go_wp2_with (go_at_call 22; refine hpo.mono ?_)
    rintro _ w1 ⟨v, rfl, hpo1⟩
    have hf := hpo1.2
    clear hpo hpo1
    go_wp2
    go_ret2
    exact ⟨rfl, hf⟩
end Go.Proofs.YtgjgmaadogkjfaaDoor
