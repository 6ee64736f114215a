/-
  Print.
-/
import Derived.Test.YtoagobpkenfbkaaGreatDoorLyE
namespace Go.Proofs.YtoagobpkenfbkaaGreatDoor
open Go.ChangeShapes Go.WideShapes Go.ChangeAt Go.RowKit Go.Shelf
set_option linter.unusedVariables false
set_option linter.unusedSimpArgs false

def prE (ts : List LX.Tk) : Nat := if 120 < ts.length then 2 else if fe ts ≠ 0 then fe ts else if 300 < (LX.pt ts).length then 2 else 0
def prS (ts : List LX.Tk) : List UInt8 := if prE ts = 0 then LX.pt ts else []
def prV (ts : List LX.Tk) : Value := .tuple #[.string ⟨(prS ts).toArray⟩, .int .i64 (prE ts)]
theorem prV_bad {ts : List LX.Tk} {c : Nat} (h : prE ts = c) (hc : c ≠ 0) : prV ts = .tuple #[.string ⟨#[]⟩, .int .i64 c] := by
  unfold prV prS
  rw [h, if_neg hc]
theorem prV_ok {ts : List LX.Tk} (h : prE ts = 0) : prV ts = .tuple #[.string ⟨(LX.pt ts).toArray⟩, .int .i64 0] := by
  unfold prV prS
  rw [h, if_pos rfl]
  rfl
def strV (ts : List LX.Tk) : List Value := ts.map fun t => .string ⟨(LX.shw t).toArray⟩
theorem fe_step {ts : List LX.Tk} {i : Nat} (h : i < ts.length) (hc : LX.chk ts[i] = 0) : fe (ts.drop i) = fe (ts.drop (i + 1)) := by
  rw [List.drop_eq_getElem_cons h, fe_ok hc]
theorem fe_stop {ts : List LX.Tk} {i : Nat} (h : i < ts.length) (hc : LX.chk ts[i] ≠ 0) : fe (ts.drop i) = LX.chk ts[i] := by
  rw [List.drop_eq_getElem_cons h, fe_bad hc]
theorem fe_all : ∀ {ts : List LX.Tk}, fe ts = 0 → ∀ t ∈ ts, LX.chk t = 0
  | [], _, t, ht => by cases ht
  | u :: r, h, t, ht => by
    by_cases hu : LX.chk u = 0
    · rw [fe_ok hu] at h
      rcases List.mem_cons.1 ht with rfl | ht
      · exact hu
      · exact fe_all h t ht
    · rw [fe_bad hu] at h
      exact absurd h hu
theorem Tryz.infoStr : (Tryz.prog.info? 9).map (fun i => (i.zero, i.size, i.bytes)) = some (some (.string ⟨#[]⟩), 1, 16) := by kernel_rfl

/-- a row of strings that the call owns, kept from the walk -/
structure Ost (w : World) (B : Nat) (v : Value) (n : Nat) (xs : List Value) : Prop where
  out : w.ownsRow B 9 1 v n xs
/-- strings.Join of a row of strings that the call owns -/
theorem join_own (B : Nat) (v : Value) (ts : List LX.Tk) (w : World) (h : w.ownsRow B 9 1 v ts.length (strV ts)) (hl : ts.length ≤ 120) (hx : ∀ t ∈ ts, (LX.shw t).length ≤ 100) :
    Calls Tryz.prog 22 #[v, .string ⟨#[32]⟩] w fun e w' => e = .returned (.string ⟨(LX.pt ts).toArray⟩) ∧ Fr w w' := by
  rcases h.2 with ⟨rfl, h0⟩ | ⟨g, cap, cur, rfl, h2, h3, h4, h5, h6, h7⟩
  · have := List.length_eq_zero_iff.1 h0
    subst this
    refine (Tryz.strings_Join_none none 0 ⟨#[32]⟩ w).mono ?_
    rintro _ w' ⟨rfl, rfl⟩
    exact ⟨rfl, Fr.refl _⟩
  · have hxs : ((ts.map fun t => (⟨(LX.shw t).toArray⟩ : ByteArray)).map (·.data.toList)) = ts.map LX.shw := by simp
    have hpl := pt_len ts hx
    have c := Tryz.strings_Join g 0 cap (ts.map fun t => (⟨(LX.shw t).toArray⟩ : ByteArray)) ⟨#[32]⟩ w (by
      intro j x hj
      have hj2 : (strV ts)[j]? = some (.string x) := by
        unfold strV
        rw [List.getElem?_map] at hj ⊢
        cases ht : ts[j]? with
        | none => rw [ht] at hj; cases hj
        | some t => rw [ht] at hj; simp at hj ⊢; exact hj
      rw [Nat.zero_add, Lib.cell_of_heap h3]
      rw [← h7, List.getElem?_take] at hj2
      split at hj2
      · rw [← hj2, Array.getElem?_toList]
      · cases hj2) (Array.getElem?_eq_some_iff.1 h3).1 (by rw [List.length_map]; omega) (by rw [List.length_map]; omega) (by
        rw [hxs, show (⟨#[32]⟩ : ByteArray).data.toList = [32] from rfl, ← pt_join]
        omega)
    rw [hxs, show (⟨#[32]⟩ : ByteArray).data.toList = [32] from rfl, ← pt_join, List.length_map] at c
    exact c

set_option maxRecDepth 100000 in
set_option maxHeartbeats 4000000 in
theorem print_any (v : Value) (l : List (Int × LX.Tk)) (w : World) (hv : IsTk w v l) (hl : l.length ≤ 9223372036854775806) (hb : ∀ p ∈ l, (-9223372036854775808 ≤ p.2.n ∧ p.2.n ≤ 9223372036854775807) ∧ p.2.s.length ≤ 9223372036854775807) (hT : Tb w) :
    Calls Tryz.prog 13 #[v] w fun e w' => e = .returned (prV (l.map (·.2))) ∧ Fr w w' := by
  obtain ⟨a, cap, rfl, hcs⟩ := hv
  have HB : Hid _ := hb
  have HC : Hid _ := hcs
  have HT : Hid _ := hT
  clear hb hcs hT
  by_cases h120 : 120 < l.length
  · have HX : Hid _ := prV_bad (ts := l.map (·.2)) (c := 2) (if_pos (by simpa using h120)) (by decide)
    generalize prV _ = V at *
    have h1 : (120 : Int) < (l.length : Int) := by omega
    go_enter Tryz.func13, Tryz.ntmps13
    go_wp2_with fail
    go_ret2
    exact ⟨by rw [HX.out]; rfl, Fr.refl _⟩
  · obtain ⟨ts, hts⟩ : ∃ ts, l.map (·.2) = ts := ⟨_, rfl⟩
    have htl : ts.length = l.length := by rw [← hts]; simp
    have hget : ∀ i (h : i < l.length) (h2 : i < ts.length), ts[i] = l[i].2 := fun i h h2 => by subst hts; simp
    have hE : prE ts = if fe ts ≠ 0 then fe ts else if 300 < (LX.pt ts).length then 2 else 0 := if_neg (by omega)
    have hN : ∀ t ∈ ts, -9223372036854775808 ≤ t.n ∧ t.n ≤ 9223372036854775807 := fun t ht => by
      rw [← hts] at ht
      obtain ⟨p, hp, rfl⟩ := List.mem_map.1 ht
      exact (HB.out p hp).1
    rw [hts]
    obtain ⟨i0, hi0, hz0, hz1, hz2⟩ := info_parts Tryz.infoStr
    obtain ⟨mc, hmc⟩ : ∃ mc, madeCells (Value.string ⟨#[]⟩).cells l.length = mc := ⟨_, rfl⟩
    have hms : mc.size = l.length := by rw [← hmc]; exact size_madeCells _ _
    have hmk : ∀ W : World, (Instr.makeSlice 42 (.int .i64 0) (.int .i64 (l.length : Int))).run Tryz.prog W = .ok (.slice (some ⟨W.heap.size, 0, none⟩) 0 l.length) (W.alloc (.cells mc 9)) := by
      intro W
      have hr := run_make (P := Tryz.prog) W 42 9 i0 _ Tryz.underlying42 hi0 hz0 .i64 .i64 0 (l.length : Int) (by omega) (by omega) (by rw [hz2]; omega) (by omega)
      simp only [hz1] at hr
      rw [show (l.length : Int).toNat * 1 = l.length by omega, hmc] at hr
      exact hr
    obtain ⟨W1, hW1⟩ : ∃ W1, w.alloc (.cells mc 9) = W1 := ⟨_, rfl⟩
    have f1 : Fr w W1 := by rw [← hW1]; exact (Fr.refl w).alloc _
    have own1 : W1.ownsRow w.heap.size 9 1 (.slice (some ⟨w.heap.size, 0, none⟩) 0 l.length) 0 [] := by rw [← hW1]; exact World.ownsRow_made w mc l.length (Nat.le_refl _) (by unfold maxLen; omega) (by omega)
    have HW1 : Hid _ := hW1
    have HF1 : Hid _ := f1
    have HO1 : Ost W1 w.heap.size (.slice (some ⟨w.heap.size, 0, none⟩) 0 l.length) 0 [] := ⟨own1⟩
    have HE : Hid _ := hE
    have HN : Hid _ := hN
    have HG : Hid _ := hget
    have HTL : Hid _ := htl
    have h1 : (l.length : Int) ≤ 120 := by omega
    have h2 : (120 < (l.length : Int)) = False := by simp; omega
    clear hW1 f1 own1 hmc hms hE hN hget htl hts
    go_enter Tryz.func13, Tryz.ntmps13
    go_wp2_with fail
    rw [HW1.out]
    clear hmk
    go_loopw [4, 18] (fun ov iv wr => ∃ i : Nat, iv = .int .i64 i ∧ i ≤ l.length ∧ fe ts = fe (ts.drop i) ∧ Fr w wr ∧ wr.ownsRow w.heap.size 9 1 ov i (strV (ts.take i))) (fun _ iv _ => l.length - (intOf iv).toNat)
    case atStart => exact ⟨0, rfl, Nat.zero_le _, by simp, HF1.out, by rw [List.take_zero]; exact HO1.out⟩
    case round =>
      obtain ⟨i, rfl, hi, hfe, hfr, hown⟩ := hrel
      have htl := HTL.out
      obtain ⟨av, ocap, rfl⟩ : ∃ a cap, u4 = .slice a i cap := by
        rcases hown.2 with ⟨hv, h0⟩ | ⟨g, cap, cur, hv, _⟩
        · exact ⟨none, 0, by rw [hv, h0]⟩
        · exact ⟨_, cap, hv⟩
      by_cases hlt : i < l.length
      · obtain ⟨b, o, rfl, hb, hc⟩ : ∃ b o, a = some ⟨b, o, none⟩ ∧ b < w.heap.size ∧ TokAt w b o l := by
          rcases HC.out with h | h
          · subst h; simp at hlt
          · exact h
        obtain ⟨c0, c1, c2, c3⟩ := (hc.fr hb hfr) i hlt
        have hg := HG.out i hlt (by omega)
        have hbd := HB.out l[i] (List.getElem_mem hlt)
        have hst := @fe_step ts i (by omega)
        have hsp := @fe_stop ts i (by omega)
        have htk : strV (ts.take (i + 1)) = strV (ts.take i) ++ [.string ⟨(LX.shw ts[i]).toArray⟩] := by
          rw [List.take_succ_eq_append_getElem (by omega)]
          unfold strV
          rw [List.map_append]
          rfl
        have hnm := HN.out ts[i] (List.getElem_mem _)
        rw [hg] at hst hsp htk hnm
        generalize l[i] = x at *
        obtain ⟨xp, xk, xn, xs⟩ := x
        simp only at c0 c1 c2 c3 hbd hst hsp htk hnm
        have hlt' : (i : Int) < (l.length : Int) := by omega
        have cs := fun W hTW => shown_any xk (xp : Int) xn ⟨xs.toArray⟩ W (by rw [mk_size]; exact hbd.2) hbd.1.1 hbd.1.2 hTW
        rw [dl_mk] at cs
        obtain ⟨W2, hW2⟩ : ∃ W2, wr.alloc (.cells #[.int .i64 xk, .int .i64 (xp : Int), .int .i64 xn, .string ⟨xs.toArray⟩] 29) = W2 := ⟨_, rfl⟩
        have f2 : Fr wr W2 := by rw [← hW2]; exact (Fr.refl wr).alloc _
        have cs2 := cs W2 (HT.out.fr (hfr.trans f2))
        have HW2 : Hid _ := hW2
        by_cases hck : LX.chk ⟨xk, xn, xs⟩ = 0
        · have hsv : shV ⟨xk, xn, xs⟩ = .tuple #[.string ⟨(LX.shw ⟨xk, xn, xs⟩).toArray⟩, .int .i64 0] := by
            unfold shV tsh
            rw [hck, if_pos rfl]
            rfl
          rw [hsv] at cs2
          have HFE : Hid _ := hfe.trans (hst hck)
          have HTK : Hid _ := htk
          have HFR : Hid _ := hfr.trans f2
          have hown2 : W2.ownsRow w.heap.size 9 1 (.slice av i ocap) i (strV (ts.take i)) := by rw [← hW2]; exact hown.alloc _
          have HOW : Hid _ := hown2
          generalize (⟨(LX.shw ⟨xk, xn, xs⟩).toArray⟩ : ByteArray) = S at *
          clear hsv hck hst hsp htk hfe hc hg hbd hnm cs hW2 hown hfr f2 hown2 htl
          go_wp2_with fail
          rw [HW2.out]
          refine cs2.mono ?_
          rintro _ w3 ⟨rfl, f3⟩
          have hown3 : w3.ownsRow w.heap.size 9 1 (.slice av i ocap) i (strV (ts.take i)) := by
            refine ⟨HOW.out.1, ?_⟩
            rcases HOW.out.2 with h0 | ⟨g, cap, cur, h1, h2, h3, h4⟩
            · exact Or.inl h0
            · exact Or.inr ⟨g, cap, cur, h1, h2, (f3.block g (Array.getElem?_eq_some_iff.1 h3).1).trans h3, h4⟩
          have hf3 : Fr w w3 := Fr.trans HFR.out f3
          have HF3 : Hid (Below w.heap.size w w3) := hf3
          have hsz3 : w.heap.size ≤ w3.heap.size := hf3.size
          clear cs2 f3 hf3 HOW
          go_wp2_with (at_builtin; refine wpList_append_own _ rfl _ _ 42 rfl w.heap.size 9 i0 (.string ⟨#[]⟩) 1 16 Tryz.underlying42 hi0 hz0 hz1 hz2 rfl (by decide) _ _ _ rfl (hown3.alloc _) ⟨w3.heap.size, 0, none⟩ 1 1 [.string S] rfl rfl ?c1 ?c2 ?c3 ?c4 ?c5 ?_)
          case c1 =>
            intro j u hj
            match j, hj with
            | 0, hj => simp at hj; subst hj; simp [Addr.add]
          case c2 => intro u hu; simp at hu; subst hu; rfl
          case c3 => unfold maxLen; omega
          case c4 => omega
          case c5 => simp; omega
          intro v' w5 hown' hgrow _
          have HO5 : Hid (w5.ownsRow w.heap.size 9 1 v' (i + 1) (strV (ts.take (i + 1)))) := by
            unfold Hid
            rw [HTK.out]
            exact hown'
          have hbe : Below w.heap.size w3 w5 := ((Below.refl w.heap.size w3).alloc hsz3 _).grown hgrow (by simp; omega) (fun q hq => (hown3.lt q hq).1)
          have HF5 : Hid (Fr w w5) := Below.trans HF3.out hbe
          clear hown' hgrow hown3 hbe HF3
          go_wp2_with fail
          go_roundw
          case rel => exact ⟨i + 1, by go_num, by omega, HFE.out, HF5.out, HO5.out⟩
          case measure => simp [intOf]; omega
        · have hsv := shV_bad (t := ⟨xk, xn, xs⟩) rfl hck
          rw [hsv] at cs2
          have hfe2 := hfe.trans (hsp hck)
          have HX : Hid _ := prV_bad (ts := ts) (c := LX.chk ⟨xk, xn, xs⟩) (by rw [HE.out, hfe2, if_pos hck]) hck
          have HFR : Hid _ := hfr.trans f2
          generalize LX.chk ⟨xk, xn, xs⟩ = c at *
          have e1 : ((c : Int) != 0) = true := by simp; omega
          have e2 : ¬ ((c : Int) = 0) := by omega
          clear hsv hck hst hsp htk hfe hfe2 hc hg hbd hnm cs hW2 hown hfr f2 htl
          go_wp2_with fail
          rw [HW2.out]
          refine cs2.mono ?_
          rintro _ w3 ⟨rfl, f3⟩
          have HF3 : Hid (Fr w w3) := Fr.trans HFR.out f3
          clear cs2 f3
          go_wp2_with fail
          go_ret2
          exact ⟨by rw [HX.out]; rfl, HF3.out⟩
      · obtain rfl : i = l.length := by omega
        have hd : ts.drop l.length = [] := List.drop_of_length_le (by omega)
        have htk : ts.take l.length = ts := List.take_of_length_le (by omega)
        rw [hd] at hfe
        rw [htk] at hown
        have hall := fe_all hfe
        have cj := join_own w.heap.size (.slice av l.length ocap) ts wr (by rw [htl]; exact hown) (by omega) (fun t ht => shw_len (HN.out t ht) (hall t ht))
        have hE2 := HE.out
        rw [hfe] at hE2
        rw [if_neg (by simp [fe])] at hE2
        have HFR : Hid _ := hfr
        have hsz : (⟨(LX.pt ts).toArray⟩ : ByteArray).size = (LX.pt ts).length := mk_size _
        by_cases h300 : 300 < (LX.pt ts).length
        · rw [if_pos h300] at hE2
          have HX : Hid _ := prV_bad hE2 (by decide)
          generalize (⟨(LX.pt ts).toArray⟩ : ByteArray) = S at *
          have e1 : (300 : Int) < (S.size : Int) := by omega
          clear hd htk hfe hown hall hE2 hfr hsz h300 htl
          go_wp2_with fail
          refine cj.mono ?_
          rintro _ w3 ⟨rfl, f3⟩
          have HF3 : Hid (Fr w w3) := Fr.trans HFR.out f3
          clear cj f3
          go_wp2_with fail
          go_ret2
          exact ⟨by rw [HX.out]; rfl, HF3.out⟩
        · rw [if_neg h300] at hE2
          have HX : Hid _ := prV_ok hE2
          generalize (⟨(LX.pt ts).toArray⟩ : ByteArray) = S at *
          have e1 : (S.size : Int) ≤ 300 := by omega
          have e2 : (300 < (S.size : Int)) = False := by simp; omega
          clear hd htk hfe hown hall hE2 hfr hsz h300 htl
          go_wp2_with fail
          refine cj.mono ?_
          rintro _ w3 ⟨rfl, f3⟩
          have HF3 : Hid (Fr w w3) := Fr.trans HFR.out f3
          clear cj f3
          go_wp2_with fail
          go_ret2
          exact ⟨by rw [HX.out]; rfl, HF3.out⟩
end Go.Proofs.YtoagobpkenfbkaaGreatDoor
