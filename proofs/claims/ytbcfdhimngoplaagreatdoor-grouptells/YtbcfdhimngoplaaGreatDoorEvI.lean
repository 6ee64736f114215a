/-
  What columnsOf of package eval answers.
-/
import Derived.Test.YtbcfdhimngoplaaGreatDoorEvH
import Derived.Test.YtbcfdhimngoplaaGreatDoorExU
namespace Go.Proofs.YtbcfdhimngoplaaGreatDoor
open Go.ChangeShapes Go.WideShapes Go.ChangeAt Go.RowKit Go.Maps
set_option linter.unusedVariables false
set_option linter.unusedSimpArgs false
set_option maxRecDepth 100000
set_option maxHeartbeats 4000000
namespace EV
def fnd (ps : List (ByteArray × VM.Vl)) : List UInt8 → Option VM.Vl := fun s => (ps.find? (fun p => decide (p.1.data.toList = s))).map (·.2)
def coE (cs : List ByteArray) (l : List VM.Vl) : Nat := if 8 < cs.length then 2 else if cs.length ≠ l.length then 1 else VM.chkAll l
theorem fnd_snoc (ps : List (ByteArray × VM.Vl)) (c : ByteArray) (x : VM.Vl) (s : List UInt8) : fnd (ps ++ [(c, x)]) s = match fnd ps s with
  | some y => some y
  | none => if c.data.toList = s then some x else none := by
 unfold fnd
 rw [List.find?_append]
 cases h : ps.find? (fun p => decide (p.1.data.toList = s)) with
 | some p => rfl
 | none =>
  simp only [Option.none_or, Option.map_none, List.find?_cons, List.find?_nil]
  by_cases hc : c.data.toList = s
  · simp [hc]
  · simp [hc]
theorem fnd_known {ps : List (ByteArray × VM.Vl)} {c : ByteArray} {x : VM.Vl} (h : (fnd ps c.data.toList).isSome = true) : fnd (ps ++ [(c, x)]) = fnd ps := by
 funext s
 rw [fnd_snoc]
 cases hs : fnd ps s with
 | some y => rfl
 | none =>
  simp only
  by_cases hc : c.data.toList = s
  · subst hc; rw [hs] at h; cases h
  · rw [if_neg hc]
theorem fnd_new {ps : List (ByteArray × VM.Vl)} {c : ByteArray} {x : VM.Vl} (h : (fnd ps c.data.toList).isSome = false) : fnd (ps ++ [(c, x)]) = more (fnd ps) c.data.toList x := by
 funext s
 rw [fnd_snoc]
 unfold more
 by_cases hc : s = c.data.toList
 ·
  subst hc
  rw [if_pos rfl]
  cases hs : fnd ps c.data.toList with
  | some y => rw [hs] at h; cases h
  | none => simp
 ·
  rw [if_neg hc]
  cases hs : fnd ps s with
  | some y => rfl
  | none => simp only; rw [if_neg (fun e => hc e.symm)]
end EV
def cdB : Cd ByteArray := ⟨1, fun x => [.string x], by decide, fun _ => rfl, fun x u h => by simp at h; subst h; rfl⟩
theorem At.b1 {w : World} {b o : Nat} {l : List ByteArray} (h : At cdB w b o l) (i : Nat) (hi : i < l.length) : w.cell? ⟨b, o + i, none⟩ = some (.string l[i]) :=
 h i _ (by have := flat_get cdB l i 0 hi (by decide); simpa [cdB] using this)
theorem upon_update_Mp {w : World} {o : Oper} {a : Act} {K : Act → World → Prop} {Q : Exit → Act → World → Prop}
  (b n : Nat) (f : List UInt8 → Option VM.Vl) (hown : Mp w b n f) (hn : n < maxLen) (s : ByteArray) (hs : s.size ≤ 140737488355327) (k m : Int) (t : ByteArray)
  (hK : ∀ w', Mp w' b (n + 1) (more f s.data.toList ⟨k, m, t⟩) → w.grownBy w' (some b) → K (a.put o.dst undef) w') :
  Oper.upon Tryz.prog o a K Q ((Sem.run Tryz.prog (Instr.mapUpdate 118 (.map (some b)) (.string s) (.agg #[.int .i64 k, .int .i64 m, .string t])) w).andThen fun _ w' => Result.ok Next.skip w') := by
 obtain ⟨D, h1, h2, h3, h4⟩ := hown.out
 obtain ⟨w', hrun, r1, r2⟩ := h2.update keyedS Tryz.underlying118 hn (str_key s hs) (valElem_mk ⟨k, m, t⟩)
 rw [hrun]
 show K (a.put o.dst undef) w'
 refine hK _ ⟨D.put (.string s.data.toList) (vdat ⟨k, m, t⟩), h1.put _ _, r1, fun u => ?_, fun u z => ?_⟩ r2
 ·
  unfold more
  by_cases ht : u = s.data.toList
  ·
   subst ht
   rw [if_pos rfl, has_put_same h1 (show WideAt.IsKeyLit (Lit.string s.data.toList) from trivial)]
   rfl
  · rw [if_neg ht, has_put_other (by intro e; cases e; exact ht rfl), h3]
 ·
  unfold more
  by_cases ht : u = s.data.toList
  ·
   subst ht
   rw [if_pos rfl, atKey_put_same h1 (show WideAt.IsKeyLit (Lit.string s.data.toList) from trivial)]
  · rw [if_neg ht, atKey_put_other (by intro e; cases e; exact ht rfl), h4]
theorem s4_after {w w' : World} {a b c d : Addr} {p q r s : Value} (h9 : Fr w w') (h : w.cell? a = some p ∧ w.cell? b = some q ∧ w.cell? c = some r ∧ w.cell? d = some s) : w'.cell? a = some p ∧ w'.cell? b = some q ∧ w'.cell? c = some r ∧ w'.cell? d = some s := by
 have k : ∀ {a : Addr} {p : Value}, w.cell? a = some p → w'.cell? a = some p := fun h => (Below.cell h9 (World.block_lt_of_cell? _ _ h)).trans h
 exact ⟨k h.1, k h.2.1, k h.2.2.1, k h.2.2.2⟩
theorem s4_grown {w w1 w2 : World} {b b' : Nat} {i j k l : Nat} {p q r s : Value} {m : Nat} (f : Fr w w1) (g : w1.grownBy w2 (some m)) (h1 : b ≠ m) (h2 : b' ≠ m) (h : w.cell? ⟨b, i, none⟩ = some p ∧ w.cell? ⟨b', j, none⟩ = some q ∧ w.cell? ⟨b', k, none⟩ = some r ∧ w.cell? ⟨b', l, none⟩ = some s) : w2.cell? ⟨b, i, none⟩ = some p ∧ w2.cell? ⟨b', j, none⟩ = some q ∧ w2.cell? ⟨b', k, none⟩ = some r ∧ w2.cell? ⟨b', l, none⟩ = some s := by
 have hh := s4_after f h
 have kk : ∀ {c i : Nat} {p : Value}, c ≠ m → w1.cell? ⟨c, i, none⟩ = some p → w2.cell? ⟨c, i, none⟩ = some p := fun {c i p} hc h => g.cell h (by simpa using hc)
 exact ⟨kk h1 hh.1, kk h2 hh.2.1, kk h2 hh.2.2.1, kk h2 hh.2.2.2⟩
def CoAns (B : Nat) (cs : List ByteArray) (l : List VM.Vl) (e : Ending) (w' : World) : Prop :=
 (EV.coE cs l = 0 ∧ ∃ b n, e = .returned (.tuple #[.map (some b), .int .i64 0]) ∧ Mp w' b n (EV.fnd (cs.zip l)) ∧ B ≤ b) ∨ (EV.coE cs l ≠ 0 ∧ e = .returned (.tuple #[.map none, .int .i64 ((EV.coE cs l : Nat) : Int)]))
theorem columnsOf_any (u v : Value) (cs : List ByteArray) (l : List VM.Vl) (w : World) (hu : IsL cdB w u cs) (hv : IsL cdV w v l) (hs : ∀ c ∈ cs, c.size ≤ 140737488355327) :
  Calls Tryz.prog 80 #[u, v] w fun e w' => CoAns w.heap.size cs l e w' ∧ Fr w w' := by
 have HE : Hid (EV.coE cs l = if 8 < cs.length then 2 else if cs.length ≠ l.length then 1 else VM.chkAll l) := rfl
 obtain ⟨ua, uc, rfl, hucap, hus⟩ := hu
 obtain ⟨va, vc, rfl, hvcap, hvs⟩ := hv
 have HU := hideP hus
 have HV := hideP hvs
 have HSz := hideP hs
 clear hus hvs hs
 by_cases h8 : 8 < cs.length
 ·
  have h8' : (8 : Int) < (cs.length : Int) := by omega
  have hz := HE.out.trans (if_pos h8)
  have HZ := hideP hz
  clear hz
  go_enter Tryz.func80, Tryz.ntmps80
  go_wp2_with fail
  go_ret2
  exact ⟨.inr ⟨by rw [HZ.out]; decide, by rw [HZ.out]; rfl⟩, Fr.refl _⟩
 have h8' : ¬ (8 : Int) < (cs.length : Int) := by omega
 replace HE := hideP (HE.out.trans (if_neg h8))
 by_cases hll : cs.length = l.length
 case neg =>
  have e1 : ((cs.length : Int) != (l.length : Int)) = true := by simp; omega
  have e2 : ¬ ((cs.length : Int) = (l.length : Int)) := by omega
  have HZ := hideP (HE.out.trans (if_pos hll))
  go_enter Tryz.func80, Tryz.ntmps80
  go_wp2_with fail
  go_ret2
  exact ⟨.inr ⟨by rw [HZ.out]; decide, by rw [HZ.out]; rfl⟩, Fr.refl _⟩
 replace HE := hideP (HE.out.trans (if_neg (by simp [hll])))
 have HLL := hideP hll
 rw [hll] at h8' hucap ⊢
 have hl8 : l.length ≤ 8 := by omega
 have hmm := @run_makeMap Tryz.prog
 have HM0 := hideP (Mp.made w)
 have F0 := hideP ((Fr.refl w).alloc (.map #[] 0))
 clear h8 hll
 go_enter Tryz.func80, Tryz.ntmps80
 go_wp2_with fail
 clear hmm
 generalize w.alloc (.map #[] 0) = W1 at *
 go_loopw [7, 8, 9, 10, 11, 25] (fun _ _ _ _ _ iv wr => ∃ (i n : Nat), iv = .int .i64 i ∧ i ≤ l.length ∧ n ≤ i ∧ VM.chkAll l = VM.chkAll (l.drop i) ∧ Mp wr w.heap.size n (EV.fnd ((cs.zip l).take i)) ∧ Fr w wr) (fun _ _ _ _ _ iv _ => l.length - (intOf iv).toNat)
 case atStart => exact ⟨0, 0, rfl, Nat.zero_le _, Nat.le_refl _, rfl, HM0.out, F0.out⟩
 case round =>
  obtain ⟨i, n, rfl, hi, hn, hall, hmp, hfr⟩ := hrel
  have HA := hideP hall
  have HM := hideP hmp
  have HF := hideP hfr
  clear hall hmp hfr
  by_cases hlt : i < l.length
  ·
   have hlt' : (i : Int) < (l.length : Int) := by omega
   have hltc : i < cs.length := by rw [HLL.out]; exact hlt
   obtain ⟨b, o, rfl, hb, hc⟩ : ∃ b o, va = some ⟨b, o, none⟩ ∧ b < w.heap.size ∧ At cdV w b o l := by
    rcases HV.out with h | h
    · rw [h] at hlt; simp at hlt
    · exact h
   obtain ⟨cb, co, rfl, hcb, hcc⟩ : ∃ b o, ua = some ⟨b, o, none⟩ ∧ b < w.heap.size ∧ At cdB w b o cs := by
    rcases HU.out with h | h
    · rw [h] at hltc; simp at hltc
    · exact h
   obtain ⟨c0, c1, c2⟩ := (hc.fr hb HF.out).v3 i hlt
   have HCs := hideP (fun W (f : Fr w W) => (hcc.fr hcb f).b1 i hltc)
   have hsz := HSz.out cs[i] (List.getElem_mem hltc)
   have hzip : i < (cs.zip l).length := by rw [List.length_zip]; omega
   have htk : (cs.zip l).take (i + 1) = (cs.zip l).take i ++ [(cs[i], l[i])] := by
    rw [List.take_succ_eq_append_getElem hzip, List.getElem_zip]
   have hkn := @EV.fnd_known ((cs.zip l).take i) cs[i] l[i]
   have hnw := @EV.fnd_new ((cs.zip l).take i) cs[i] l[i]
   rw [← htk] at hkn hnw
   have cv := fun W => check_any l[i].k l[i].n l[i].s W
   have hchk : VM.chkAll (l.drop i) = if VM.chk l[i] = 0 then VM.chkAll (l.drop (i + 1)) else VM.chk l[i] := by
    rw [List.drop_eq_getElem_cons hlt]; rfl
   rw [hchk] at HA
   generalize EV.fnd ((cs.zip l).take i) = f at *
   generalize hf' : EV.fnd ((cs.zip l).take (i + 1)) = f' at *
   have HF' := hideP hf'
   rw [show VM.chk ⟨l[i].k, l[i].n, l[i].s⟩ = VM.chk l[i] from rfl] at cv
   generalize VM.chk l[i] = ch at *
   generalize cs[i] = cn at *
   generalize l[i] = y at *
   obtain ⟨yk, yn, ys⟩ := y
   simp only at c0 c1 c2 cv
   have HB1 := hideP (Blk.new wr #[.int .i64 yk, .int .i64 yn, .string ys] 56)
   have FA := hideP (HF.out.alloc (.cells #[.int .i64 yk, .int .i64 yn, .string ys] 56))
   have HMa := hideP (HM.out.fr ((Fr.refl wr).alloc (.cells #[.int .i64 yk, .int .i64 yn, .string ys] 56)))
   have hwr := HM.out.lt
   have HKn := hideP hkn
   have HNw := hideP hnw
   clear hc hcc htk hkn hnw hchk hf' hzip HM
   by_cases h0 : ch = 0
   ·
    subst h0
    replace HA := hideP (HA.out.trans (if_pos rfl))
    go_wp2_with fail
    refine (cv _).mono ?_
    rintro _ w2 ⟨rfl, f2⟩
    have F2 := hideP (FA.out.trans f2)
    have HB2 := hideP (HB1.out.fr f2)
    have HM2 := hideP (HMa.out.fr f2)
    have k0 := HCs.out w2 F2.out
    clear f2 cv c0 c1 c2
    cases hk : (f cn.data.toList).isSome with
    | true =>
     have HE2 := hideP (HKn.out hk)
     have HK := hideP hk
     clear hk
     go_wp2_with (first
      | (at_lookup; refine wp_lookup_Mp rfl _ _ rfl w.heap.size n f rfl HM2.out cn rfl hsz ?_; rw [HK.out]; generalize (f cn.data.toList).getD EX.nul = dd; obtain ⟨d0, d1, d2⟩ := dd; simp only [vlV])
      | go_in)
     go_roundw
     case rel => exact ⟨i + 1, n, by go_num, by omega, by omega, HA.out, by rw [HF'.out, HE2.out]; exact HM2.out.fr ((Fr.refl w2).alloc _), F2.out.alloc _⟩
     case measure => simp [intOf]; omega
    | false =>
     have HE2 := hideP (HNw.out hk)
     have HK := hideP hk
     clear hk
     go_wp2_with (first
      | (at_lookup; refine wp_lookup_Mp rfl _ _ rfl w.heap.size n f rfl HM2.out cn rfl hsz ?_; rw [HK.out]; generalize (f cn.data.toList).getD EX.nul = dd; obtain ⟨d0, d1, d2⟩ := dd; simp only [vlV])
      | go_in)
     have HM3 := hideP (HM2.out.fr ((Fr.refl w2).alloc (.cells #[.int .i64 d0, .int .i64 d1, .string d2] 56)))
     have F3 := hideP (F2.out.alloc (.cells #[.int .i64 d0, .int .i64 d1, .string d2] 56))
     have HB3 := HB2.out.fr ((Fr.refl w2).alloc (.cells #[.int .i64 d0, .int .i64 d1, .string d2] 56))
     have HS := hideP (show _ ∧ _ ∧ _ ∧ _ from ⟨HCs.out _ F3.out, HB3.cell 0 rfl, HB3.cell 1 rfl, HB3.cell 2 rfl⟩)
     have hmx : n < maxLen := by unfold maxLen; omega
     have hle3 := Fr.size F3.out
     clear HB3 k0
     generalize w2.alloc (.cells #[.int .i64 d0, .int .i64 d1, .string d2] 56) = w3 at *
     go_region_held3 (fun W' => W'.cell? ⟨cb, co + i, none⟩ = some (.string cn) ∧ W'.cell? ⟨wr.heap.size, 0, none⟩ = some (.int .i64 yk) ∧ W'.cell? ⟨wr.heap.size, 1, none⟩ = some (.int .i64 yn) ∧ W'.cell? ⟨wr.heap.size, 2, none⟩ = some (.string ys)) (first | exact HS.out | exact s4_after (Fr.drew (Fr.refl _)) HS.out | assumption | exact s4_grown (Fr.drew (Fr.refl _)) hg4 (by omega) (by omega) HS.out) (first
      | (refine upon_update_Mp w.heap.size n f (HM3.out.fr (Fr.drew (Fr.refl _))) hmx cn hsz yk yn ys ?_; intro w4 hm4 hg4; have F4 := hideP (show Fr w w4 from Below.grown (Fr.drew F3.out) hg4 hle3 (fun k hk => by cases hk; exact Nat.le_refl _))))
     all_goals
      go_wp2_with fail
      go_roundw
      case rel => exact ⟨i + 1, n + 1, by go_num, by omega, by omega, HA.out, by rw [HF'.out, HE2.out]; exact hm4, F4.out⟩
      case measure => simp [intOf]; omega
   ·
    have HZ0 := hideP (HA.out.trans (if_neg h0))
    have HZ := hideP (HE.out.trans HZ0.out)
    have e1 : ((ch : Int) != 0) = true := by simp; omega
    have e2 : ¬ ((ch : Int) = 0) := by omega
    go_wp2_with fail
    refine (cv _).mono ?_
    rintro _ w2 ⟨rfl, f2⟩
    go_wp2_with fail
    go_ret2
    exact ⟨.inr ⟨by rw [HZ.out]; exact h0, by rw [HZ.out]; rfl⟩, FA.out.trans f2⟩
  ·
   obtain rfl : i = l.length := by omega
   have hlt' : ((l.length : Int) < (l.length : Int)) = False := by simp
   have HZ : Hid (EV.coE cs l = 0) := by
    unfold Hid
    rw [HE.out, HA.out, List.drop_length]
    rfl
   have HME := hideP (show Mp wr w.heap.size n (EV.fnd (cs.zip l)) from by
    have h := HM.out
    rwa [List.take_of_length_le (by rw [List.length_zip]; omega)] at h)
   go_wp2_with fail
   go_ret2
   exact ⟨.inl ⟨HZ.out, _, _, rfl, HME.out, Nat.le_refl _⟩, HF.out⟩
end Go.Proofs.YtbcfdhimngoplaaGreatDoor
