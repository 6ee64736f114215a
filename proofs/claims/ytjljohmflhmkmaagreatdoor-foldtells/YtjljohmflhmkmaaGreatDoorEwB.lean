/-
  What walk.Up with foldedNode answers.
-/
import Derived.Test.YtjljohmflhmkmaaGreatDoorEvZ
namespace Go.Proofs.YtjljohmflhmkmaaGreatDoor
open Go.ChangeShapes Go.WideShapes Go.ChangeAt Go.RowKit
set_option linter.unusedVariables false
set_option linter.unusedSimpArgs false
set_option maxRecDepth 100000
set_option maxHeartbeats 4000000

namespace EV
open VM EX
theorem up_gd {f : List UInt8 → Option Vl} (hf : ∀ s y, f s = some y → gd y) : ∀ (e : List Nd) (free out : List Vl), (∀ n ∈ e, gd n.v) → (∀ x ∈ free, gd x) → up (wo f) e free = .ok out → ∀ x ∈ out, gd x
  | [], free, out, _, hfr, h => by cases h; exact hfr
  | n :: e, free, out, hn, hfr, h => by
    unfold up at h
    split at h
    · cases h
    rename_i x hx
    refine up_gd hf e _ out (fun m hm => hn m (by simp [hm])) ?_ h
    intro y hy
    rcases List.mem_append.1 hy with h1 | h1
    · exact hfr y (List.mem_of_mem_take h1)
    · obtain rfl : y = x := by simpa using h1
      exact wo_gd hf (hn n (by simp)) (fun z hz => hfr z (List.mem_of_mem_drop hz)) hx
theorem ev_gd {e : List Nd} {cs : List ByteArray} {l : List Vl} {v : Vl} (hn : ∀ n ∈ e, gd n.v) (hl : ∀ x ∈ l, gd x) (h : ev e cs l = .ok v) : gd v := by
  unfold ev at h
  split at h
  · cases h
  split at h
  · cases h
  split at h
  · cases h
  rename_i out hout
  cases h
  have := up_gd (fnd_gd hl) e [] out hn (fun x hx => by simp at hx) hout
  cases out with
  | nil => exact gd_nul
  | cons x r => exact this x (by simp)
/-- a node that can be reckoned with -/
def okN (n : Nd) : Prop := n.nm.size ≤ 140737488355327 ∧ gd n.v
theorem fOf_ok {n : Nd} {ks : List (List Nd)} {out : List Nd} (hn : okN n) (hk : ∀ x ∈ ks.flatten, okN x) (h : fOf n ks = .ok out) : (∀ x ∈ out, okN x) ∧ out.length ≤ ks.flatten.length + 1 := by
  have h1 : ∀ x ∈ ks.flatten ++ [n], okN x := by
    intro x hx
    rcases List.mem_append.1 hx with h | h
    · exact hk x h
    · obtain rfl : x = n := by simpa using h
      exact hn
  unfold fOf at h
  injection h with h
  subst h
  split
  · rename_i v hv
    split
    · exact ⟨h1, by simp⟩
    · refine ⟨fun x hx => ?_, by simp⟩
      obtain rfl : x = lit v := by simpa using hx
      exact ⟨by show (⟨#[]⟩ : ByteArray).size ≤ 140737488355327; decide, ev_gd (fun m hm => (h1 m hm).2) (fun x hx => by simp at hx) hv⟩
  · exact ⟨h1, by simp⟩
end EV
theorem ok_inj {a b : List EX.Nd} (h : (Except.ok a : Except Nat (List EX.Nd)) = .ok b) : a = b := by injection h
/-- what is answered of all -/
def UpNAns (B : Nat) (e : List EX.Nd) (r : Ending) (w' : World) : Prop :=
  ∃ out u, EX.up EV.fOf e [] = .ok out ∧ r = .returned (.tuple #[u, .int .i64 0]) ∧ OLL B w' u out
theorem OLL.nil (B : Nat) (w : World) : OLL B w (.slice none 0 0) [] := ⟨[], World.ownsRow_nil _ _ _ _, rfl, fun i h => by simp at h⟩
theorem upN_any (v : Value) (e : List EX.Nd) (w : World) (h : IsL cdN w v e) (hok : ∀ n ∈ e, EV.okN n) (hl : e.length ≤ 900) (hTn : Tn w) (hT : Tb w) :
    Calls Tryz.prog 46 #[v, .func (.func 47) #[] #[]] w fun r w' => UpNAns w.heap.size e r w' ∧ Fr w w' := by
  obtain ⟨a, cap, rfl, hcap, hcs⟩ := h
  have HC := hideP hcs
  have HN := hideP hok
  have HTn := hideP hTn
  have HT := hideP hT
  clear hcs hok hTn hT
  obtain ⟨i0, hi0, hz0, hz1, hz2⟩ := info_parts Tryz.infoNs
  go_enter Tryz.func46, Tryz.ntmps46
  go_wp2_with fail
  go_loopw [6, 8, 9, 10, 11, 14] (fun fv _ _ _ _ iv wr => ∃ (i : Nat) (free : List (List EX.Nd)), iv = .int .i64 i ∧ i ≤ e.length ∧ EX.up EV.fOf e [] = EX.up EV.fOf (e.drop i) free ∧ OLL w.heap.size wr fv free ∧ Fr w wr ∧ (EX.tot free ≤ i ∧ ∀ x ∈ free.flatten, EV.okN x) ∧ free.length ≤ i) (fun _ _ _ _ _ iv _ => e.length - (intOf iv).toNat)
  case atStart => exact ⟨0, [], rfl, Nat.zero_le _, rfl, OLL.nil _ _, Fr.refl _, ⟨Nat.le_refl _, fun x hx => by simp at hx⟩, Nat.le_refl _⟩
  case round =>
    obtain ⟨i, free, rfl, hi, hall, ⟨qs, hown, hqn, hqs⟩, hfr, hbd, hfl⟩ := hrel
    obtain ⟨fa, fc, rfl⟩ := own_slice hown
    have HA := hideP hall
    have HO := hideP hown
    have HQn := hideP hqn
    have HQ := hideP hqs
    have HF := hideP hfr
    have HBd := hideP hbd
    obtain ⟨L, hL⟩ : ∃ L, free.length = L := ⟨_, rfl⟩
    have HL := hideP hL
    have HLq : Hid (qs.length = L) := hqn.trans hL
    rw [hL] at HO hfl ⊢
    clear hall hown hfr hbd hL hqn hqs
    by_cases hlt : i < e.length
    · have hlt' : (i : Int) < (e.length : Int) := by omega
      obtain ⟨b, o, rfl, hb, hc⟩ : ∃ b o, a = some ⟨b, o, none⟩ ∧ b < w.heap.size ∧ At cdN w b o e := by
        rcases HC.out with h | h
        · rw [h] at hlt; simp at hlt
        · exact h
      obtain ⟨c0, c1, c2, c3, c4, c5⟩ := (hc.fr hb HF.out).nd i hlt
      have hn := HN.out e[i] (List.getElem_mem hlt)
      rw [List.drop_eq_getElem_cons hlt] at HA
      generalize e[i] = n at *
      have hF : ∃ F : Nat, F = L - n.kids.toNat := ⟨_, rfl⟩
      obtain ⟨F, hF⟩ := hF
      have hFL : F ≤ L := by omega
      have hfirst : (L : Int) - min (max n.kids 0) (L : Int) = (F : Int) := by omega
      have kl_ : ∃ kl, free.drop F = kl := ⟨_, rfl⟩
      obtain ⟨kl, hkl⟩ := kl_
      have hspl : EX.tot (free.take F) + EX.tot kl = EX.tot free := by
        rw [← hkl, ← EX.tot_flat, ← EX.tot_flat, ← EX.tot_flat, ← List.length_append, ← List.flatten_append, List.take_append_drop]
      have hbt : EX.tot (free.take F) + EX.tot kl ≤ i := by rw [hspl]; exact HBd.out.1
      have hkk : ∀ x ∈ kl.flatten, EV.okN x := fun x hx => HBd.out.2 x (by
        rw [← List.take_append_drop F free, List.flatten_append, hkl]
        exact List.mem_append_right _ hx)
      have hkt : ∀ x ∈ (free.take F).flatten, EV.okN x := fun x hx => HBd.out.2 x (by
        rw [← List.take_append_drop F free, List.flatten_append]
        exact List.mem_append_left _ hx)
      have hll : kl.length ≤ 1000 := by rw [← hkl, List.length_drop, HL.out]; omega
      have hal : ∀ x ∈ kl.flatten ++ [n], EV.okN x := by
        intro x hx
        rcases List.mem_append.1 hx with h | h
        · exact hkk x h
        · obtain rfl : x = n := by simpa using h
          exact hn
      have HCon := hideP (fun W v (g : Fr w W) (h : IsLL W v kl) => foldedNode_any n v kl W h (by omega) (by omega) (fun x hx => (hal x hx).1) (fun x hx => (hal x hx).2) (HTn.out.fr g) (HT.out.fr g))
      have HFv := hideP hF
      obtain ⟨out, hout⟩ : ∃ out, EV.fOf n kl = .ok out := ⟨_, rfl⟩
      have hup : EX.up EV.fOf (n :: e.drop (i + 1)) free = EX.up EV.fOf (e.drop (i + 1)) (free.take F ++ [out]) := by
        rw [EX.up]
        simp only [HL.out, ← hF, hkl, hout]
      rw [hup] at HA
      have HZ := hideP HA.out
      obtain ⟨ho1, ho2⟩ := EV.fOf_ok hn hkk hout
      rw [EX.tot_flat] at ho2
      have HOk := hideP (show EX.tot (free.take F ++ [out]) ≤ i + 1 ∧ ∀ x ∈ (free.take F ++ [out]).flatten, EV.okN x from by
        constructor
        · rw [← EX.tot_flat, List.flatten_append, List.length_append, EX.tot_flat]
          simp only [List.flatten_cons, List.flatten_nil, List.append_nil]
          omega
        · intro x hx
          rw [List.flatten_append] at hx
          rcases List.mem_append.1 hx with h | h
          · exact hkt x h
          · exact ho1 x (by simpa using h))
      have HKl := hideP hkl
      have HOut := hideP hout
      obtain ⟨op, kids, ⟨vk, vn, vs⟩, nm⟩ := n
      simp only [EX.val] at c0 c1 c2 c3 c4 c5 hfirst HCon
      have HB1 := hideP (Blk.new wr #[.int .i64 op, .int .i64 kids, .int .i64 vk, .int .i64 vn, .string vs, .string nm] 38)
      have FW := hideP ((Fr.refl wr).alloc (.cells #[.int .i64 op, .int .i64 kids, .int .i64 vk, .int .i64 vn, .string vs, .string nm] 38))
      clear hc hn hkl hF hout ho1 ho2 hspl hbt hkk hkt hal hup HA
      go_upto_region 6 with fail
      generalize wr.alloc (.cells #[.int .i64 op, .int .i64 kids, .int .i64 vk, .int .i64 vn, .string vs, .string nm] 38) = wz at *
      have HS6 := hideP (show wz.cell? ⟨wr.heap.size, 0, none⟩ = some (.int .i64 op) ∧ wz.cell? ⟨wr.heap.size, 1, none⟩ = some (.int .i64 kids) ∧ wz.cell? ⟨wr.heap.size, 2, none⟩ = some (.int .i64 vk) ∧ wz.cell? ⟨wr.heap.size, 3, none⟩ = some (.int .i64 vn) ∧ wz.cell? ⟨wr.heap.size, 4, none⟩ = some (.string vs) ∧ wz.cell? ⟨wr.heap.size, 5, none⟩ = some (.string nm) from ⟨HB1.out.cell 0 rfl, HB1.out.cell 1 rfl, HB1.out.cell 2 rfl, HB1.out.cell 3 rfl, HB1.out.cell 4 rfl, HB1.out.cell 5 rfl⟩)
      have hz := Fr.drew (Fr.refl wz)
      have hFL' : (F : Int) ≤ (L : Int) := by omega
      have hsh : (fa = none ∧ L = 0 ∧ fc = 0) ∨ ∃ g, fa = some ⟨g, 0, none⟩ ∧ L ≤ fc := by
        rcases HO.out.2 with ⟨e1, h0⟩ | ⟨g, cap', cur, e1, h2, h3, h4, _⟩
        · cases e1; exact .inl ⟨rfl, h0, rfl⟩
        · cases e1; exact .inr ⟨g, rfl, h4⟩
      have HTk := hideP (show wr.ownsRow w.heap.size 22 1 (.slice fa F fc) F (flat cdQ (qs.take F)) from by
        have h := own_take (m := F) HO.out hFL (by decide)
        have e := flat_take cdQ qs F (by rw [HLq.out]; exact hFL)
        rw [← e]
        exact h)
      have HEl := hideP (fun W (g : Fr wr W) => show ∀ i (h1 : i < (qs.drop F).length) (h2 : i < kl.length), IsL cdN W (qs.drop F)[i].v kl[i] from by
        intro i h1 h2
        have h3 : F + i < qs.length := by rw [List.length_drop] at h1; omega
        have h4 : F + i < free.length := by rw [HL.out]; rw [HLq.out] at h3; exact h3
        have h5 := isL_own (E := cdN) (own_fr (HQ.out (F + i) h3 h4) g)
        have e1 : (qs.drop F)[i] = qs[F + i] := List.getElem_drop
        have e2 : kl[i] = free[F + i] := by
          have key : ∀ (kl' : List (List EX.Nd)) (hk : free.drop F = kl') (h2 : i < kl'.length), kl'[i] = free[F + i] := by
            intro kl' hk
            subst hk
            intro h2
            exact List.getElem_drop
          exact key kl HKl.out h2
        rw [e1, e2]
        exact h5)
      have HKn : Hid ((qs.drop F).length = kl.length) := by unfold Hid; rw [← HKl.out, List.length_drop, List.length_drop, HL.out, HLq.out]
      rcases hsh with ⟨rfl, rfl, rfl⟩ | ⟨g, rfl, hLc⟩
      · obtain rfl : F = 0 := by omega
        have HIs := hideP (show IsLL wz.drew (.slice none 0 0) kl from by
          rw [← HKl.out, show free = [] from List.length_eq_zero_iff.1 HL.out]
          exact ⟨[], isL_nil _ _, rfl, fun i h => by simp at h⟩)
        go_region_held3 (fun W => W.cell? ⟨wr.heap.size, 0, none⟩ = some (.int .i64 op) ∧ W.cell? ⟨wr.heap.size, 1, none⟩ = some (.int .i64 kids) ∧ W.cell? ⟨wr.heap.size, 2, none⟩ = some (.int .i64 vk) ∧ W.cell? ⟨wr.heap.size, 3, none⟩ = some (.int .i64 vn) ∧ W.cell? ⟨wr.heap.size, 4, none⟩ = some (.string vs) ∧ W.cell? ⟨wr.heap.size, 5, none⟩ = some (.string nm)) (first | exact HS6.out | exact s6_after hz HS6.out | exact s6_after hf9 HS6.out) (first
          | (go_at_call 47; refine (HCon.out _ _ (HF.out.trans (FW.out.trans hz)) HIs.out).mono ?_; rintro _ w3 ⟨⟨u3, out3, ho3, rfl, own3⟩, f3⟩; obtain rfl := ok_inj (HOut.out.symm.trans ho3); have HU3 := hideP (show w3.ownsRow wz.heap.size 38 6 u3 out.length (flat cdN out) from own3); have hf9 := hz.trans f3; clear f3 own3 ho3))
        all_goals (
          have hfw := HF.out.trans (FW.out.trans hf9)
          obtain ⟨ua, uc, rfl⟩ := own_slice HU3.out
          have HLit := hideP (lit_one cdQ w3 ⟨ua, out.length, uc⟩ 22)
          have HO3 := hideP (own_fr (own_fr (w := wr) HTk.out (FW.out.trans hf9)) ((Fr.refl w3).alloc (.cells #[.slice ua out.length uc] 22)))
          have HFW := hideP hfw
          have hsz : w.heap.size ≤ w3.heap.size := hfw.size
          have hszz : w.heap.size ≤ wz.heap.size := (HF.out.trans FW.out).size
          clear hfw HS6 hz
          go_wp2_with (at_builtin; refine wpList_append_L cdQ rfl _ _ 42 22 i0 _ 24 rfl Tryz.underlying42 hi0 hz0 hz1 hz2 rfl w.heap.size _ 0 _ rfl HO3.out (.slice (some ⟨w3.heap.size, 0, none⟩) 1 1) [⟨ua, out.length, uc⟩] rfl HLit.out ?c3 ?c4 ?c5 ?_)
          case c3 => unfold maxLen; simp <;> omega
          case c4 => simp <;> omega
          case c5 => simp <;> omega
          intro v2 wB own2 gr2
          have HN2 := hideP (show OLL w.heap.size wB v2 (free.take 0 ++ [out]) from by
            have e9 : (free.take 0).length = 0 := by rw [List.length_take, HL.out]; omega
            have e8 : (qs.take 0).length = 0 := by rw [List.length_take, HLq.out]; omega
            have own2' : wB.ownsRow w.heap.size 22 1 v2 ((free.take 0).length + 1) (flat cdQ (qs.take 0 ++ [⟨ua, out.length, uc⟩])) := by rw [e9]; exact own2
            refine ⟨qs.take 0 ++ [⟨ua, out.length, uc⟩], by rw [List.length_append]; exact own2', by rw [List.length_append, List.length_append, e9, e8]; rfl, ?_⟩
            refine OLL.snoc (w := w3.alloc (.cells #[.slice ua out.length uc] 22)) (v := .slice none 0 0) (by rw [e9]; exact HO3.out) (by rw [e9, e8]) ?_ ?_ own2' gr2
            · intro j h1 h2
              have h3 : j < qs.length := by rw [List.length_take] at h1; omega
              have h4 : j < free.length := by rw [List.length_take] at h2; omega
              rw [List.getElem_take, List.getElem_take]
              exact own_fr (HQ.out j h3 h4) ((FW.out.trans hf9).alloc _)
            · exact own_fr (own_low HU3.out hszz) ((Fr.refl w3).alloc _))
          have FB := hideP (show Fr w wB from Below.grown (HFW.out.alloc _) gr2 (by simp; omega) (own_base HO3.out))
          clear own2 gr2
          go_wp2_with fail
          go_roundw
          case rel => exact ⟨i + 1, free.take 0 ++ [out], by go_num, by omega, HZ.out, HN2.out, FB.out, HOk.out, by rw [List.length_append, List.length_take, HL.out]; simp <;> omega⟩
          case measure => simp [intOf]; omega
        )
      · have hFc : (F : Int) ≤ (fc : Int) := by omega
        have hLc' : (L : Int) ≤ (fc : Int) := by omega
        have HIs := hideP (show IsLL wz.drew (.slice (if fc = F then some ⟨g, 0, none⟩ else some ⟨g, F, none⟩) (L - F) (fc - F)) kl from by
          refine ⟨qs.drop F, ?_, HKn.out, HEl.out _ (FW.out.trans hz)⟩
          refine isL_drop (own_fr HO.out (FW.out.trans hz)) HLq.out.symm hFL ?_
          by_cases h : fc = F
          · left; omega
          · right; exact ⟨g, rfl, by rw [if_neg h]; show some (⟨g, F, none⟩ : Addr) = some ⟨g, F * 1, none⟩; rw [Nat.mul_one]⟩)
        go_region_held3 (fun W => W.cell? ⟨wr.heap.size, 0, none⟩ = some (.int .i64 op) ∧ W.cell? ⟨wr.heap.size, 1, none⟩ = some (.int .i64 kids) ∧ W.cell? ⟨wr.heap.size, 2, none⟩ = some (.int .i64 vk) ∧ W.cell? ⟨wr.heap.size, 3, none⟩ = some (.int .i64 vn) ∧ W.cell? ⟨wr.heap.size, 4, none⟩ = some (.string vs) ∧ W.cell? ⟨wr.heap.size, 5, none⟩ = some (.string nm)) (first | exact HS6.out | exact s6_after hz HS6.out | exact s6_after hf9 HS6.out) (first
          | (go_at_call 47; refine (HCon.out _ _ (HF.out.trans (FW.out.trans hz)) HIs.out).mono ?_; generalize (if fc = F then (some ⟨g, 0, none⟩ : Option Addr) else some ⟨g, F, none⟩) = A9; rintro _ w3 ⟨⟨u3, out3, ho3, rfl, own3⟩, f3⟩; obtain rfl := ok_inj (HOut.out.symm.trans ho3); have HU3 := hideP (show w3.ownsRow wz.heap.size 38 6 u3 out.length (flat cdN out) from own3); have hf9 := hz.trans f3; clear f3 own3 ho3))
        all_goals (
          have hfw := HF.out.trans (FW.out.trans hf9)
          obtain ⟨ua, uc, rfl⟩ := own_slice HU3.out
          have HLit := hideP (lit_one cdQ w3 ⟨ua, out.length, uc⟩ 22)
          have HO3 := hideP (own_fr (own_fr (w := wr) HTk.out (FW.out.trans hf9)) ((Fr.refl w3).alloc (.cells #[.slice ua out.length uc] 22)))
          have HFW := hideP hfw
          have hsz : w.heap.size ≤ w3.heap.size := hfw.size
          have hszz : w.heap.size ≤ wz.heap.size := (HF.out.trans FW.out).size
          clear hfw HS6 hz
          go_wp2_with (at_builtin; refine wpList_append_L cdQ rfl _ _ 42 22 i0 _ 24 rfl Tryz.underlying42 hi0 hz0 hz1 hz2 rfl w.heap.size _ F _ rfl HO3.out (.slice (some ⟨w3.heap.size, 0, none⟩) 1 1) [⟨ua, out.length, uc⟩] rfl HLit.out ?c3 ?c4 ?c5 ?_)
          case c3 => unfold maxLen; simp <;> omega
          case c4 => simp <;> omega
          case c5 => simp <;> omega
          intro v2 wB own2 gr2
          have HN2 := hideP (show OLL w.heap.size wB v2 (free.take F ++ [out]) from by
            have e9 : (free.take F).length = F := by rw [List.length_take, HL.out]; omega
            have e8 : (qs.take F).length = F := by rw [List.length_take, HLq.out]; omega
            have own2' : wB.ownsRow w.heap.size 22 1 v2 ((free.take F).length + 1) (flat cdQ (qs.take F ++ [⟨ua, out.length, uc⟩])) := by rw [e9]; exact own2
            refine ⟨qs.take F ++ [⟨ua, out.length, uc⟩], by rw [List.length_append]; exact own2', by rw [List.length_append, List.length_append, e9, e8]; rfl, ?_⟩
            refine OLL.snoc (w := w3.alloc (.cells #[.slice ua out.length uc] 22)) (v := .slice (some ⟨g, 0, none⟩) F fc) (by rw [e9]; exact HO3.out) (by rw [e9, e8]) ?_ ?_ own2' gr2
            · intro j h1 h2
              have h3 : j < qs.length := by rw [List.length_take] at h1; omega
              have h4 : j < free.length := by rw [List.length_take] at h2; omega
              rw [List.getElem_take, List.getElem_take]
              exact own_fr (HQ.out j h3 h4) ((FW.out.trans hf9).alloc _)
            · exact own_fr (own_low HU3.out hszz) ((Fr.refl w3).alloc _))
          have FB := hideP (show Fr w wB from Below.grown (HFW.out.alloc _) gr2 (by simp; omega) (own_base HO3.out))
          clear own2 gr2
          go_wp2_with fail
          go_roundw
          case rel => exact ⟨i + 1, free.take F ++ [out], by go_num, by omega, HZ.out, HN2.out, FB.out, HOk.out, by rw [List.length_append, List.length_take, HL.out]; simp <;> omega⟩
          case measure => simp [intOf]; omega
        )
    · obtain rfl : i = e.length := by omega
      have hlt' : ((e.length : Int) < (e.length : Int)) = False := by simp
      have HZ : Hid (EX.up EV.fOf e [] = .ok free) := by
        unfold Hid
        rw [HA.out, List.drop_length]
        rfl
      go_wp2_with fail
      go_ret2
      refine ⟨⟨free, _, HZ.out, rfl, qs, ?_, HQn.out, HQ.out⟩, HF.out⟩
      rw [HL.out]
      exact HO.out
end Go.Proofs.YtjljohmflhmkmaaGreatDoor
