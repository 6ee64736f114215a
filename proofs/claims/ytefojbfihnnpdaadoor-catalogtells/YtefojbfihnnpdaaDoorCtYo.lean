/-
  The document's own colText, SchemaRows and colOf.
-/
import Derived.Test.YtefojbfihnnpdaaDoorCtQ
import Derived.Test.YtefojbfihnnpdaaDoorCtH
import Derived.Lib.ItoaNum
import Derived.Test.YtefojbfihnnpdaaDoorCtU
import Derived.Deep.RegionHeld3
namespace Go.Proofs.YtefojbfihnnpdaaDoor
open Go.ChangeShapes Go.WideShapes Go.ChangeAt Go.RowKit
set_option linter.unusedVariables false
set_option linter.unusedSimpArgs false
set_option maxRecDepth 100000

theorem baExt {a : ByteArray} {l : List UInt8} (h : a.data.toList = l) : a = ⟨l.toArray⟩ := by
  apply ByteArray.ext
  rw [← h]
/-- the digits of a number above 0 -/
def dgz (n : Nat) : List UInt8 := if n = 0 then [] else Lib.decDigits n
theorem dgz_step (n : Nat) (h : n ≠ 0) : dgz n = dgz (n / 10) ++ [UInt8.ofNat (48 + n % 10)] := by
  unfold dgz
  rw [if_neg h]
  by_cases h10 : n < 10
  · rw [Lib.decDigits_one h10, if_pos (by omega), show n % 10 = n by omega]
    rfl
  · rw [if_neg (by omega)]
    conv => lhs; rw [Lib.decDigits, dif_neg h10]
theorem dgz_len (n : Nat) (h : n < 18446744073709551616) : (dgz n).length ≤ 20 := by
  have key : ∀ (k u : Nat), u < 10 ^ (k + 1) → Lib.nDigits u ≤ k + 1 := by
    intro k
    induction k with
    | zero => intro u h; rw [Lib.nDigits_small (by simpa using h)]; omega
    | succ k ih =>
      intro u h
      by_cases h10 : u < 10
      · rw [Lib.nDigits_small h10]; omega
      · rw [Lib.nDigits_big h10]
        have := ih (u / 10) (by rw [Nat.pow_succ] at h; omega)
        omega
  unfold dgz
  split
  · simp
  · rw [Lib.decDigits_length]
    have := key 19 n (by show n < 100000000000000000000; omega)
    omega
set_option maxHeartbeats 1000000 in
theorem digitsOf_any : ∀ (n : Nat) (w : World), n < 18446744073709551616 →
    Calls Tryd.prog 57 #[.int .u64 (n : Int)] w fun e w' => e = .returned (.string ⟨(dgz n).toArray⟩) ∧ Fr w w' := by
  intro n
  induction n using Nat.strongRecOn with
  | ind n ih =>
    intro w hn
    have IH : Hid _ := ih
    clear ih
    by_cases h : n = 0
    · subst h
      go_enter Tryd.func57, Tryd.ntmps57
      go_wp2_with fail
      go_ret
      exact ⟨rfl, Fr.refl _⟩
    · have h' : ((n : Int) == 0) = false := by rw [beq_eq_false_iff_ne]; omega
      have p' : ¬ (n : Int) = 0 := by omega
      have HE : Hid ((⟨(dgz (n / 10)).toArray⟩ : ByteArray) ++ ⟨#[UInt8.ofNat ((n : Int) % 10 + 48).toNat]⟩ = ⟨(dgz n).toArray⟩) := by
        unfold Hid
        apply baExt
        rw [dataApp, dgz_step n h, show ((n : Int) % 10 + 48).toNat = 48 + n % 10 by omega]
      have hd : (n : Int) / 10 = ((n / 10 : Nat) : Int) := by omega
      have HD : Hid _ := hd
      have H20 : Hid ((dgz (n / 10)).length ≤ 20) := dgz_len _ (by omega)
      have c1 := IH.out (n / 10) (by omega)
      have hn' : (n : Int) ≤ 18446744073709551615 := by omega
      clear hd IH
      go_enter Tryd.func57, Tryd.ntmps57
      go_wp2_with fail
      rw [HD.out]
      refine (c1 _ (by omega)).mono ?_
      rintro _ w1 ⟨rfl, f1⟩
      have F1 : Hid _ := f1
      clear f1 c1
      go_wp2_with fail
      refine (oneByte_int _ _ (by omega) (by omega)).mono ?_
      rintro _ w2 ⟨rfl, f2⟩
      have F2 : Hid (Fr w w2) := Fr.trans F1.out f2
      have h20 := H20.out
      clear f2 F1 H20
      go_wp2_with fail
      go_ret
      exact ⟨retB HE.out, F2.out⟩


theorem dgz_small (k : Nat) (h : 0 < k) (h2 : k < 10) : dgz k = [UInt8.ofNat (48 + k)] := by
  rw [dgz_step k (by omega), show k / 10 = 0 by omega, show k % 10 = k by omega]
  rfl
set_option maxHeartbeats 1000000 in
theorem intText_small (k : Nat) (w : World) (h : k < 10) :
    Calls Tryd.prog 45 #[.int .i64 (k : Int)] w fun e w' => e = .returned (.string ⟨#[UInt8.ofNat (48 + k)]⟩) ∧ Fr w w' := by
  by_cases h0 : k = 0
  · subst h0
    go_enter Tryd.func45, Tryd.ntmps45
    go_wp2_with fail
    go_ret
    exact ⟨rfl, Fr.refl _⟩
  · have p1 : ((k : Int) == 0) = false := by simp; omega
    have p2 : ¬ ((k : Int) = 0) := by omega
    have p3 : ¬ ((k : Int) < 0) := by omega
    have hd := fun W => digitsOf_any k W (by omega)
    rw [dgz_small k (by omega) h] at hd
    have h' : (k : Int) < 10 := by omega
    generalize (⟨#[UInt8.ofNat (48 + k)]⟩ : ByteArray) = X at *
    go_enter Tryd.func45, Tryd.ntmps45
    go_wp2_with fail
    refine (hd _).mono ?_
    rintro _ w1 ⟨rfl, f1⟩
    go_wp2_with fail
    go_ret
    exact ⟨rfl, f1⟩
theorem mrk_app (k : Nat) (p q : UInt8) (n : ByteArray) : (⟨#[UInt8.ofNat (48 + k)]⟩ ++ ⟨#[p]⟩ ++ ⟨#[q]⟩ ++ n : ByteArray) = ⟨#[UInt8.ofNat (48 + k), p, q]⟩ ++ n := by
  apply ByteArray.ext
  apply Array.toList_inj.1
  simp only [ByteArray.data_append, Array.toList_append]
  rfl
set_option maxHeartbeats 2000000 in
theorem colText_any (n : ByteArray) (k : Nat) (nn u : Bool) (w : World) (hk : k ≤ 3) (hn : n.size ≤ 140737488355327) :
    Calls Tryd.prog 24 #[.agg #[.string n, .int .i64 (k : Int), .bool nn, .bool u]] w fun e w' => e = .returned (.string (CT.ct ⟨n, k, nn, u⟩)) ∧ Fr w w' := by
  have ci := fun W => intText_small k W (by omega)
  have HE : Hid (CT.ct ⟨n, k, nn, u⟩ = ⟨#[UInt8.ofNat (48 + k)]⟩ ++ ⟨#[UInt8.ofNat (CT.mk nn 110)]⟩ ++ ⟨#[UInt8.ofNat (CT.mk u 117)]⟩ ++ n) := by
    unfold Hid
    rw [mrk_app]
    rfl
  generalize CT.ct ⟨n, k, nn, u⟩ = R at *
  have HB := hideP (Blk.new w #[.string n, .int .i64 (k : Int), .bool nn, .bool u] 44)
  have F0 := hideP ((Fr.refl w).alloc (.cells #[.string n, .int .i64 (k : Int), .bool nn, .bool u] 44))
  have hX : (⟨#[UInt8.ofNat (48 + k)]⟩ : ByteArray).size = 1 := rfl
  obtain ⟨X, hXe⟩ : ∃ X : ByteArray, (⟨#[UInt8.ofNat (48 + k)]⟩ : ByteArray) = X := ⟨_, rfl⟩
  rw [hXe] at ci HE hX
  clear hXe
  have hs1 : 3 + n.size ≤ 9223372036854775807 := by omega
  have hs2 : 1 + 1 + 1 + n.size ≤ 9223372036854775807 := by omega
  have hs3 : (3 : Int) + (n.size : Int) ≤ 9223372036854775807 := by omega
  have hs4 : X.size + 1 ≤ 9223372036854775807 := by omega
  have hs5 : X.size + 1 + 1 ≤ 9223372036854775807 := by omega
  have hs6 : X.size + 1 + 1 + n.size ≤ 9223372036854775807 := by omega
  cases nn
  all_goals cases u
  all_goals (
    go_enter Tryd.func24, Tryd.ntmps24
    go_wp2_with fail
    refine (ci _).mono ?_
    rintro _ w1 ⟨rfl, f1⟩
    have HB1 := hideP (HB.out.fr f1)
    have q0 := HB1.out.cell 0 rfl
    have q2 := HB1.out.cell 2 rfl
    have q3 := HB1.out.cell 3 rfl
    have F1 := hideP (F0.out.trans f1)
    clear f1
    go_wp2_with fail
    go_ret
    exact ⟨retB HE.out.symm, F1.out⟩)
set_option maxHeartbeats 2000000 in
theorem schemaRows_any (v : Value) (l : List CT.Sc) (w : World) (h : IsSc w v l) (hw : WS l) (h0 : CT.chk l = 0) :
    Calls Tryd.prog 11 #[v] w fun e w' => ∃ v es, e = .returned v ∧ Oe w.heap.size v es w' ∧ es.map (·.1) = CT.rows l ∧ Fr w w' := by
  obtain ⟨hl6, hok⟩ := CT.chk_ok h0
  obtain ⟨ps, hL, hps, hcs⟩ := h
  obtain ⟨a, cap, rfl, hcap, hpc⟩ := hL
  have hpl : ps.length = l.length := by rw [← hps, List.length_map]
  rw [hpl] at hcap ⊢
  have HC := hideP hpc
  have HK := hideP hcs
  have HP := hideP hps
  have HPL := hideP hpl
  have HW := hideP hw
  have HOk := hideP hok
  clear hpc hcs hps hpl hw h0 hok
  obtain ⟨i0, hi0, hz0, hz1, hz2⟩ := info_parts Tryd.infoEn
  obtain ⟨j0, hj0, jz0, jz1, jz2⟩ := info_parts Tryd.infoVal0
  go_enter Tryd.func11, Tryd.ntmps11
  go_wp2_with fail
  go_loopw [3, 4, 5, 6] (fun ev iv _ _ wr => ∃ (i : Nat) (es : List Ev), iv = .int .i64 i ∧ i ≤ l.length ∧ Fr w wr ∧ Oe w.heap.size ev es wr ∧ es.map (·.1) = CT.rows (l.take i)) (fun _ iv _ _ _ => l.length - (intOf iv).toNat)
  case atStart => exact ⟨0, [], rfl, Nat.zero_le _, Fr.refl _, ⟨World.ownsRow_nil _ _ _ _, fun p hp => by simp at hp⟩, rfl⟩
  case round =>
    obtain ⟨i, es, rfl, hi, hfr, hoe, hes⟩ := hrel
    generalize wr = wo at *
    have hel : es.length = i := by
      have := congrArg List.length hes
      rw [List.length_map, CT.rows, List.length_map, List.length_take] at this
      omega
    obtain ⟨av, ocap, rfl⟩ := own_slice hoe.own
    have HFr := hideP hfr
    have HOe := hideP hoe
    have HEs := hideP hes
    have HEl := hideP hel
    rw [hel]
    clear hfr hoe hes hel
    by_cases hlt : i < l.length
    · have hlt2 : i < ps.length := by rw [HPL.out]; exact hlt
      have hlt' : (i : Int) < (l.length : Int) := by omega
      obtain ⟨b, o, rfl, hb, hc⟩ : ∃ b o, a = some ⟨b, o, none⟩ ∧ b < w.heap.size ∧ At cdS w b o ps := by
        rcases HC.out with h | h
        · rw [h] at hlt2; simp at hlt2
        · exact h
      obtain ⟨c0, c1, c2⟩ := (hc.fr hb HFr.out).sc i hlt2
      have hpi : ps[i].1 = l[i] := by
        have e := HP.out
        subst e
        rw [List.getElem_map]
      have hcol := HK.out ps[i] (List.getElem_mem hlt2)
      rw [hpi] at c0 c1 hcol
      have hokt := HOk.out l[i] (List.getElem_mem hlt)
      have hwt := HW.out l[i] (List.getElem_mem hlt)
      have htk : CT.rows (l.take (i + 1)) = CT.rows (l.take i) ++ [(l[i].id, CT.row l[i])] := by
        rw [List.take_succ_eq_append_getElem hlt]
        unfold CT.rows
        rw [List.map_append]
        rfl
      have HPi := hideP hpi
      generalize hsl : ps[i].2 = sl at c2 hcol
      have HSl := hideP hsl
      obtain ⟨sa, sn, sc⟩ := sl
      simp only [slV] at c2 hcol
      have h6c := hokt.six
      have hwc := hwt.2.1
      have hke := hokt.each
      have hrow : CT.row l[i] = ⟨2, 0, l[i].n⟩ :: l[i].c.map fun c => ⟨2, 0, CT.ct c⟩ := rfl
      generalize CT.row l[i] = rw_ at htk hrow
      generalize hx0 : l[i].id = x0 at c0 htk
      have HX0 := hideP hx0
      generalize hx1 : l[i].n = x1 at c1 hrow
      have HX1 := hideP hx1
      generalize l[i].c = cols at hcol h6c hwc hke hrow
      obtain ⟨ca, ccap, hce, hccap, hcc⟩ := hcol
      simp only [Value.slice.injEq] at hce
      obtain ⟨rfl, rfl, rfl⟩ := hce
      have HTk := hideP htk
      have HRw := hideP hrow
      have HCC := hideP hcc
      have HWc := hideP hwc
      have HKe := hideP hke
      clear hpi hokt hwt htk hrow hcc hwc hke hx0 hx1 hsl
      have hst : Ov wo.heap.size (.slice (some ⟨wo.heap.size, 0, none⟩) 1 1) [⟨2, 0, x1⟩] (wo.alloc (.cells #[.int .i64 2, .int .i64 0, .string x1] 46)) :=
        World.ownsRow_lit (base := wo.heap.size) (e := 46) (size := 3) wo #[.int .i64 2, .int .i64 0, .string x1] 1 (Nat.le_refl _) (by decide) rfl
      have HSt := hideP hst
      have F0 : Hid (Fr wo (wo.alloc (.cells #[.int .i64 2, .int .i64 0, .string x1] 46))) := (Fr.refl wo).alloc _
      have HAt := hideP (fun W (f : Fr wo W) => (hc.fr hb (HFr.out.trans f)).sc i hlt2)
      rw [show ps[i].1 = l[i] from HPi.out] at HAt
      rw [HX0.out, HX1.out, HSl.out] at HAt
      simp only [slV] at HAt
      clear hst hc
      go_wp2_with fail
      clear c0 c1 c2
      go_loopw [5, 6] (fun rv kv wq => ∃ k : Nat, kv = .int .i64 k ∧ k ≤ cols.length ∧ Fr wo wq ∧ Ov wo.heap.size rv (⟨2, 0, x1⟩ :: (cols.take k).map fun c => ⟨2, 0, CT.ct c⟩) wq) (fun _ kv _ => cols.length - (intOf kv).toNat)
      case atStart => exact ⟨0, rfl, Nat.zero_le _, F0.out, HSt.out⟩
      case round =>
        obtain ⟨k, rfl, hk, hfq, hov⟩ := hrel
        have hrl : (⟨2, 0, x1⟩ :: (cols.take k).map fun c => (⟨2, 0, CT.ct c⟩ : VM.Vl)).length = k + 1 := by
          rw [List.length_cons, List.length_map, List.length_take]; omega
        have hov2 : wr.ownsRow wo.heap.size 46 3 u5 (k + 1) (flat cdV (⟨2, 0, x1⟩ :: (cols.take k).map fun c => ⟨2, 0, CT.ct c⟩)) := by
          have h := hov
          unfold Ov at h
          rw [hrl] at h
          exact h
        obtain ⟨ar, cr, rfl⟩ := own_slice hov2
        have e2 := (HAt.out wr hfq).2.2
        have HOv := hideP hov2
        have HFq := hideP hfq
        clear hov hov2 hfq hrl
        by_cases hkl : k < cols.length
        · have hkl' : (k : Int) < (cols.length : Int) := by omega
          obtain ⟨b2, o2, rfl, hb2, hc2⟩ : ∃ b o, sa = some ⟨b, o, none⟩ ∧ b < w.heap.size ∧ At cdC w b o cols := by
            rcases HCC.out with h | h
            · rw [h] at hkl; simp at hkl
            · exact h
          have FF : Hid (Fr w wr) := HFr.out.trans HFq.out
          obtain ⟨d0, d1, d2, d3⟩ := (hc2.fr hb2 FF.out).co k hkl
          have hok := HKe.out cols[k] (List.getElem_mem hkl)
          have hwn := HWc.out cols[k] (List.getElem_mem hkl)
          have htk2 : (cols.take (k + 1)).map (fun c => (⟨2, 0, CT.ct c⟩ : VM.Vl)) = (cols.take k).map (fun c => (⟨2, 0, CT.ct c⟩ : VM.Vl)) ++ [⟨2, 0, CT.ct cols[k]⟩] := by
            rw [List.take_succ_eq_append_getElem hkl, List.map_append]; rfl
          have hlo := hok.lo
          have hhi := hok.hi
          have cm : ∀ W, Calls Tryd.prog 24 #[.agg #[.string cols[k].n, .int .i64 cols[k].k, .bool cols[k].nn, .bool cols[k].u]] W fun e w' => e = .returned (.string (CT.ct cols[k])) ∧ Fr W w' := by
            intro W
            obtain ⟨kk, hkk⟩ := Int.eq_ofNat_of_zero_le hlo
            have := colText_any cols[k].n kk cols[k].nn cols[k].u W (by omega) hwn
            rw [← hkk] at this
            exact this
          generalize CT.ct cols[k] = ctk at htk2 cm
          generalize cols[k].n = y0 at d0 cm
          generalize cols[k].k = y1 at d1 cm
          generalize cols[k].nn = y2 at d2 cm
          generalize cols[k].u = y3 at d3 cm
          have HTk2 := hideP htk2
          clear hc2 hok htk2 hlo hwn hhi
          go_wp2_with fail
          refine (cm _).mono ?_
          rintro _ w3 ⟨rfl, f3⟩
          have HO3 := hideP (own_fr HOv.out f3)
          have HF3 := hideP f3
          have HLit := hideP (lit_one cdV w3 ⟨2, 0, ctk⟩ 46)
          clear f3 cm d0 d1 d2 d3 e2
          go_wp2_with (at_builtin; refine wpList_append_L cdV rfl _ _ 40 46 j0 _ 32 rfl Tryd.underlying40 hj0 jz0 jz1 jz2 rfl wo.heap.size _ (k + 1) _ rfl (own_fr HO3.out (Fr.alloc (Fr.refl w3) _)) (.slice (some ⟨w3.heap.size, 0, none⟩) 1 1) [⟨2, 0, ctk⟩] rfl HLit.out (by unfold maxLen; simp; omega) (by simp; omega) (by have := HFq.out.size; have := HF3.out.size; simp; omega) ?_)
          intro v2 wB own2 gr2
          have F2 : Hid (Fr wo wB) := Below.grown (HFq.out.trans (HF3.out.trans (Fr.alloc (Fr.refl w3) _))) gr2 (by have := HFq.out.size; have := HF3.out.size; simp; omega) (own_base HO3.out)
          have HO2 : Hid (Ov wo.heap.size v2 (⟨2, 0, x1⟩ :: (cols.take (k + 1)).map fun c => ⟨2, 0, CT.ct c⟩) wB) := by
            unfold Hid Ov
            rw [HTk2.out, ← List.cons_append]
            have hl2 : (((⟨2, 0, x1⟩ : VM.Vl) :: (cols.take k).map fun c => (⟨2, 0, CT.ct c⟩ : VM.Vl)) ++ [(⟨2, 0, ctk⟩ : VM.Vl)]).length = k + 1 + 1 := by
              rw [List.length_append, List.length_cons, List.length_map, List.length_take, Nat.min_eq_left (by omega)]
              rfl
            rw [hl2, List.map_take, List.cons_append]
            exact own2
          clear own2 gr2
          go_wp2_with fail
          go_roundw
          case rel => exact ⟨k + 1, by go_num, by omega, F2.out, HO2.out⟩
          case measure => simp [intOf]; omega
        · obtain rfl : k = cols.length := by omega
          have hkl' : ((cols.length : Int) < (cols.length : Int)) = False := by simp
          have hrowv : Ov wo.heap.size (.slice ar (cols.length + 1) cr) rw_ wr := by
            unfold Ov
            rw [HRw.out]
            have e9 : cols.take cols.length = cols := List.take_length
            have h := HOv.out
            rw [e9] at h
            rw [List.length_cons, List.length_map]
            exact h
          have f2 : Fr wo (wr.alloc (.cells #[.int .i64 x0, .slice ar (cols.length + 1) cr] 53)) := HFq.out.alloc _
          have HOE4 := hideP (HOe.out.fr f2)
          have hown4 : (wr.alloc (.cells #[.int .i64 x0, .slice ar (cols.length + 1) cr] 53)).ownsRow w.heap.size 53 2 (.slice av i ocap) i (esV es) := by
            have h := HOE4.out.own
            rw [HEl.out] at h
            exact h
          have HOW := hideP hown4
          have HR4 := hideP ((hrowv.row.mono (Nat.zero_le _)).fr ((Fr.refl wr).alloc (.cells #[.int .i64 x0, .slice ar (cols.length + 1) cr] 53)))
          have hc1 : ∀ j u, [Value.int .i64 x0, .slice ar (cols.length + 1) cr][j]? = some u → (wr.alloc (.cells #[.int .i64 x0, .slice ar (cols.length + 1) cr] 53)).cell? ((⟨wr.heap.size, 0, none⟩ : Addr).add j) = some u := by
            intro j u hj
            rw [Addr.add_lit, Nat.zero_add]
            exact (Blk.new wr #[.int .i64 x0, .slice ar (cols.length + 1) cr] 53).cell j (by simpa using hj)
          have HC1 := hideP hc1
          have k0 := (HAt.out wr HFq.out).1
          have HF4 : Hid (Fr w (wr.alloc (.cells #[.int .i64 x0, .slice ar (cols.length + 1) cr] 53))) := HFr.out.trans f2
          have hws : w.heap.size ≤ wr.heap.size := (HFr.out.trans HFq.out).size
          clear hrowv f2 hown4 hc1 HOv
          go_wp2_with (at_builtin; refine wpList_append_own _ rfl _ _ 23 rfl w.heap.size 53 i0 (.agg #[.int .i64 0, .slice none 0 0]) 2 32 Tryd.underlying23 hi0 hz0 hz1 hz2 rfl (by decide) _ _ _ rfl HOW.out ⟨wr.heap.size, 0, none⟩ 1 1 [.int .i64 x0, .slice ar (cols.length + 1) cr] rfl rfl ?c1 ?c2 ?c3 ?c4 ?c5 ?_)
          case c1 => exact HC1.out
          case c2 =>
            intro u hu
            simp at hu
            rcases hu with rfl | rfl <;> rfl
          case c3 => unfold maxLen; omega
          case c4 => omega
          case c5 => simp; omega
          intro v' w5 hown' hgrow _
          have HN : Hid (Oe w.heap.size v' (es ++ [((x0, rw_), .slice ar (cols.length + 1) cr)]) w5) := by
            have h := HOE4.out
            rw [HEl.out] at h
            exact Oe.snoc h (p := ((x0, rw_), .slice ar (cols.length + 1) cr)) HR4.out (by rw [HEl.out]; exact hown') hgrow
          have HF6 : Hid (Fr w w5) := Below.grown HF4.out hgrow (by simp; omega) (fun k hk => (HOW.out.lt k hk).1)
          have HE2 : Hid ((es ++ [(((x0, rw_) : LF.En), Value.slice ar (cols.length + 1) cr)]).map (·.1) = CT.rows (l.take (i + 1))) := by
            unfold Hid
            rw [HTk.out, List.map_append, HEs.out]
            rfl
          clear hown' hgrow HOW HR4 HC1 HOE4
          go_wp2_with fail
          go_roundw
          case rel => exact ⟨i + 1, _, by go_num, by omega, HF6.out, HN.out, HE2.out⟩
          case measure => simp [intOf]; omega
    · obtain rfl : i = l.length := by omega
      have hlt' : ((l.length : Int) < (l.length : Int)) = False := by simp
      have HE9 : Hid (es.map (·.1) = CT.rows l) := by
        unfold Hid
        rw [HEs.out, List.take_length]
      go_wp2_with fail
      go_ret
      refine ⟨_, es, rfl, ?_, HE9.out, HFr.out⟩
      have h := HOe.out
      rw [HEl.out] at h
      exact h
end Go.Proofs.YtefojbfihnnpdaaDoor
namespace Go.Proofs.YtefojbfihnnpdaaDoor
open Go.ChangeShapes Go.WideShapes Go.ChangeAt Go.RowKit
set_option linter.unusedVariables false
set_option linter.unusedSimpArgs false
set_option maxRecDepth 100000

namespace CT
/-- the marks of the k-th of sixteen ways -/
def kc (k : Nat) : ByteArray := mrk ⟨⟨#[]⟩, ((k / 4 : Nat) : Int), decide (k / 2 % 2 = 1), decide (k % 2 = 1)⟩
def kcol (s : ByteArray) (k : Nat) : Cl := ⟨s.extract 3 s.size, ((k / 4 : Nat) : Int), decide (k / 2 % 2 = 1), decide (k % 2 = 1)⟩
theorem b_at {s : ByteArray} {p : ByteArray} (h3 : 3 ≤ s.size) (h : s.extract 0 3 = p) (j : Nat) (hj : j < 3) : b_ s j = (p.data.toList.getD j 0).toNat := by
  unfold b_ bs
  subst h
  congr 1
  rw [ByteArray.data_extract, Array.toList_extract, List.extract_eq_take_drop]
  simp only [List.drop_zero, List.getD_eq_getElem?_getD]
  rw [List.getElem?_take, if_pos (by omega)]
theorem ext_of {s : ByteArray} (h3 : 3 ≤ s.size) (x y z : UInt8) (h0 : b_ s 0 = x.toNat) (h1 : b_ s 1 = y.toNat) (h2 : b_ s 2 = z.toNat) : s.extract 0 3 = ⟨#[x, y, z]⟩ := by
  have hl : (bs s).length = s.size := ba_len s
  have e : (s.extract 0 3).data.toList = (bs s).take 3 := by
    rw [ByteArray.data_extract, Array.toList_extract, List.extract_eq_take_drop]
    simp [bs]
  unfold b_ at h0 h1 h2
  generalize bs s = l at *
  match l, hl with
  | [], hl => simp at hl; omega
  | [_], hl => simp at hl; omega
  | [_, _], hl => simp at hl; omega
  | p :: q :: r :: t, _ =>
    simp only [List.getD_cons_zero, List.getD_cons_succ] at h0 h1 h2
    rw [UInt8.toNat_inj] at h0 h1 h2
    subst h0 h1 h2
    rw [← ba_eta (s.extract 0 3), e]
    rfl
theorem code_col {x : VM.Vl} {k : Nat} (hk : k < 16) (h2 : x.k = 2) (h3 : 3 ≤ x.s.size) (h : x.s.extract 0 3 = kc k) : colB x = true ∧ colA x = kcol x.s k := by
  have g0 := b_at h3 h 0 (by decide)
  have g1 := b_at h3 h 1 (by decide)
  have g2 := b_at h3 h 2 (by decide)
  unfold colB colA
  rw [if_pos ⟨h2, h3⟩, g0, g1, g2, decide_eq_true h2, decide_eq_true h3]
  have hall : ∀ k : Fin 16, (true && (true && (decide (48 ≤ ((kc k.val).data.toList.getD 0 0).toNat ∧ ((kc k.val).data.toList.getD 0 0).toNat ≤ 51) && (decide (((kc k.val).data.toList.getD 1 0).toNat = 110 ∨ ((kc k.val).data.toList.getD 1 0).toNat = 45) && decide (((kc k.val).data.toList.getD 2 0).toNat = 117 ∨ ((kc k.val).data.toList.getD 2 0).toNat = 45))))) = true ∧ ((((kc k.val).data.toList.getD 0 0).toNat : Int) - 48 = ((k.val / 4 : Nat) : Int)) ∧ decide (((kc k.val).data.toList.getD 1 0).toNat = 110) = decide (k.val / 2 % 2 = 1) ∧ decide (((kc k.val).data.toList.getD 2 0).toNat = 117) = decide (k.val % 2 = 1) := by decide +kernel
  obtain ⟨e1, e2, e3, e4⟩ := hall ⟨k, hk⟩
  simp only at e1 e2 e3 e4
  exact ⟨e1, by rw [e2, e3, e4]; rfl⟩
theorem col_code {x : VM.Vl} (h : colB x = true) : x.k = 2 ∧ 3 ≤ x.s.size ∧ ∃ k, k < 16 ∧ x.s.extract 0 3 = kc k := by
  unfold colB at h
  simp only [Bool.and_eq_true, decide_eq_true_eq] at h
  obtain ⟨h1, h2, ⟨h3, h4⟩, h5, h6⟩ := h
  refine ⟨h1, h2, (b_ x.s 0 - 48) * 4 + (if b_ x.s 1 = 110 then 2 else 0) + (if b_ x.s 2 = 117 then 1 else 0), by split <;> split <;> omega, ?_⟩
  have hk0 : b_ x.s 0 = 48 ∨ b_ x.s 0 = 49 ∨ b_ x.s 0 = 50 ∨ b_ x.s 0 = 51 := by omega
  rcases hk0 with g0 | g0 | g0 | g0
  all_goals rcases h5 with g1 | g1
  all_goals rcases h6 with g2 | g2
  all_goals (
    rw [g0, g1, g2]
    refine (ext_of h2 _ _ _ (g0.trans ?_) (g1.trans ?_) (g2.trans ?_)).trans (show (⟨#[_, _, _]⟩ : ByteArray) = _ from rfl)
    all_goals rfl)
end CT

theorem ba_nil (a : ByteArray) : a ++ ⟨#[]⟩ = a := by
  apply ByteArray.ext
  apply Array.toList_inj.1
  simp [ByteArray.data_append]
theorem str_neq {x y : ByteArray} (h : ¬ x = y) : (x.toList == y.toList) = false ∧ ¬ x.toList = y.toList := by
  have h2 : ¬ x.toList = y.toList := fun c => h (by
    rw [Lib.toList_data, Lib.toList_data] at c
    rw [← ba_eta x, c, ba_eta])
  exact ⟨by simpa using h2, h2⟩
theorem s6_after {w w' : World} {a b c d e f : Addr} {p q r s t u : Value} (h9 : Fr w w') (h : w.cell? a = some p ∧ w.cell? b = some q ∧ w.cell? c = some r ∧ w.cell? d = some s ∧ w.cell? e = some t ∧ w.cell? f = some u) : w'.cell? a = some p ∧ w'.cell? b = some q ∧ w'.cell? c = some r ∧ w'.cell? d = some s ∧ w'.cell? e = some t ∧ w'.cell? f = some u :=
  ⟨(Below.cell h9 (World.block_lt_of_cell? _ _ h.1)).trans h.1, (Below.cell h9 (World.block_lt_of_cell? _ _ h.2.1)).trans h.2.1, (Below.cell h9 (World.block_lt_of_cell? _ _ h.2.2.1)).trans h.2.2.1, (Below.cell h9 (World.block_lt_of_cell? _ _ h.2.2.2.1)).trans h.2.2.2.1, (Below.cell h9 (World.block_lt_of_cell? _ _ h.2.2.2.2.1)).trans h.2.2.2.2.1, (Below.cell h9 (World.block_lt_of_cell? _ _ h.2.2.2.2.2)).trans h.2.2.2.2.2⟩
set_option maxHeartbeats 4000000 in
theorem colOf_any (x : VM.Vl) (w : World) (hs : x.s.size ≤ 140737488355327) :
    Calls Tryd.prog 26 #[.agg #[.int .i64 x.k, .int .i64 x.n, .string x.s]] w fun e w' => e = .returned (.tuple #[.agg (if CT.colB x = true then #[.string (CT.colA x).n, .int .i64 (CT.colA x).k, .bool (CT.colA x).nn, .bool (CT.colA x).u] else #[.string ⟨#[]⟩, .int .i64 0, .bool false, .bool false]), .bool (CT.colB x)]) ∧ Fr w w' := by
  obtain ⟨W0, hW0⟩ : ∃ W0, (w.alloc (.cells #[.int .i64 x.k, .int .i64 x.n, .string x.s] 46)).alloc (.cells #[.string ⟨#[]⟩, .int .i64 0, .bool false, .bool false] 44) = W0 := ⟨_, rfl⟩
  have f0 : Fr w W0 := by rw [← hW0]; exact ((Fr.refl w).alloc _).alloc _
  have b0 : Blk W0 w.heap.size #[.int .i64 x.k, .int .i64 x.n, .string x.s] 46 := by rw [← hW0]; exact (Blk.new w _ _).old _
  have b1 : Blk W0 (w.heap.size + 1) #[.string ⟨#[]⟩, .int .i64 0, .bool false, .bool false] 44 := by
    have := Blk.new (w.alloc (.cells #[.int .i64 x.k, .int .i64 x.n, .string x.s] 46)) #[.string ⟨#[]⟩, .int .i64 0, .bool false, .bool false] 44
    rw [World.size_alloc, hW0] at this; exact this
  have HB0 := hideP b0
  have HB1 := hideP b1
  have HF0 := hideP f0
  have HCol := hideP (@CT.col_code x)
  have HCode := hideP (fun k hk h2 h3 h => @CT.code_col x k hk h2 h3 h)
  generalize CT.colB x = cb at *
  generalize CT.colA x = ca at *
  obtain ⟨xk, xn, xs⟩ := x
  simp only at *
  clear f0 b0 b1
  go_enter Tryd.func26, Tryd.ntmps26
  go_wp2_with fail
  clear hW0
  go_loopw [4, 5] (fun iv _ wr => ∃ i : Nat, iv = .int .i64 i ∧ i ≤ 16 ∧ Fr W0 wr ∧ ∀ j, j < i → ¬ (xk = 2 ∧ 3 ≤ xs.size ∧ xs.extract 0 3 = CT.kc j)) (fun iv _ _ => 16 - (intOf iv).toNat)
  case atStart => exact ⟨0, rfl, by omega, Fr.refl _, fun j hj => absurd hj (Nat.not_lt_zero _)⟩
  case round =>
    obtain ⟨i, rfl, hi, hfr, hno⟩ := hrel
    have HFr := hideP hfr
    have HNo := hideP hno
    clear hfr hno
    by_cases hlt : i < 16
    · have hlt' : (i : Int) < 16 := by omega
      have E4 : Hid ((i : Int) / 4 = ((i / 4 : Nat) : Int)) := by unfold Hid; omega
      have E2 : Hid (((i : Int) / 2 % 2 == 1) = decide (i / 2 % 2 = 1)) := by unfold Hid; rw [Bool.eq_iff_iff]; simp; omega
      have E1 : Hid (((i : Int) % 2 == 1) = decide (i % 2 = 1)) := by unfold Hid; rw [Bool.eq_iff_iff]; simp; omega
      have hkk : i / 4 ≤ 3 := by omega
      have HKc : Hid (CT.kc i = CT.mrk ⟨⟨#[]⟩, ((i / 4 : Nat) : Int), decide (i / 2 % 2 = 1), decide (i % 2 = 1)⟩) := rfl
      have HKl : Hid (CT.kcol xs i = ⟨xs.extract 3 xs.size, ((i / 4 : Nat) : Int), decide (i / 2 % 2 = 1), decide (i % 2 = 1)⟩) := rfl
      have cT := fun W => colText_any ⟨#[]⟩ (i / 4) (decide (i / 2 % 2 = 1)) (decide (i % 2 = 1)) W hkk (by show 0 ≤ _; omega)
      rw [show CT.ct ⟨⟨#[]⟩, ((i / 4 : Nat) : Int), decide (i / 2 % 2 = 1), decide (i % 2 = 1)⟩ = CT.kc i from ba_nil _] at cT
      go_upto_region 5 with fail
      have HBw := hideP (Blk.new wr #[.string ⟨#[]⟩, .int .i64 ((i : Int) / 4), .bool ((i : Int) / 2 % 2 == 1), .bool ((i : Int) % 2 == 1)] 44)
      have HBI := hideP ((HB0.out.fr HFr.out).old (.cells #[.string ⟨#[]⟩, .int .i64 ((i : Int) / 4), .bool ((i : Int) / 2 % 2 == 1), .bool ((i : Int) % 2 == 1)] 44))
      have FW := hideP (HFr.out.alloc (.cells #[.string ⟨#[]⟩, .int .i64 ((i : Int) / 4), .bool ((i : Int) / 2 % 2 == 1), .bool ((i : Int) % 2 == 1)] 44))
      generalize wr.alloc (.cells #[.string ⟨#[]⟩, .int .i64 ((i : Int) / 4), .bool ((i : Int) / 2 % 2 == 1), .bool ((i : Int) % 2 == 1)] 44) = wz at *
      rw [E4.out, E2.out, E1.out] at HBw
      clear E4 E2 E1
      generalize hkk' : i / 4 = kk at *
      generalize hp' : decide (i / 2 % 2 = 1) = p at *
      generalize hq' : decide (i % 2 = 1) = q at *
      clear hkk' hp' hq' hkk
      have q0 := HBI.out.cell 0 rfl
      have q2 := HBI.out.cell 2 rfl
      have hz := Fr.drew (Fr.refl wz)
      by_cases h2 : xk = 2
      · subst h2
        by_cases h3 : 3 ≤ xs.size
        · have h3' : (3 : Int) ≤ (xs.size : Int) := by omega
          have HS6 := hideP (show wz.cell? ⟨w.heap.size, 0, none⟩ = some (.int .i64 2) ∧ wz.cell? ⟨w.heap.size, 2, none⟩ = some (.string xs) ∧ wz.cell? ⟨wr.heap.size, 0, none⟩ = some (.string ⟨#[]⟩) ∧ wz.cell? ⟨wr.heap.size, 1, none⟩ = some (.int .i64 (kk : Int)) ∧ wz.cell? ⟨wr.heap.size, 2, none⟩ = some (.bool p) ∧ wz.cell? ⟨wr.heap.size, 3, none⟩ = some (.bool q) from ⟨q0, q2, HBw.out.cell 0 rfl, HBw.out.cell 1 rfl, HBw.out.cell 2 rfl, HBw.out.cell 3 rfl⟩)
          by_cases hE : xs.extract 0 3 = CT.kc i
          · obtain ⟨g1, g2⟩ := HCode.out i hlt rfl h3 hE
            have HG2 := hideP (g2.trans HKl.out)
            subst g1
            generalize CT.kc i = P at *
            subst hE
            clear HKc HCode HNo HCol
            go_wp2_with fail
            go_region_held3 (fun W => W.cell? ⟨w.heap.size, 0, none⟩ = some (.int .i64 2) ∧ W.cell? ⟨w.heap.size, 2, none⟩ = some (.string xs) ∧ W.cell? ⟨wr.heap.size, 0, none⟩ = some (.string ⟨#[]⟩) ∧ W.cell? ⟨wr.heap.size, 1, none⟩ = some (.int .i64 (kk : Int)) ∧ W.cell? ⟨wr.heap.size, 2, none⟩ = some (.bool p) ∧ W.cell? ⟨wr.heap.size, 3, none⟩ = some (.bool q)) (first | exact HS6.out | exact s6_after hz HS6.out | exact s6_after hf9 HS6.out) (first
          | (go_at_call 24; refine (cT _).mono ?_; rintro _ w3 ⟨rfl, f3⟩; have hf9 := hz.trans f3; clear f3))
            all_goals (
              have HB5 := hideP (HBw.out.fr hf9)
              have HBv := hideP (HBI.out.fr hf9)
              have v2 := HBv.out.cell 2 rfl
              have p0 := HB5.out.cell 0 rfl
              have pf := HB5.out.frozen 0
              have F9 := hideP (FW.out.trans hf9)
              have hsz1 : w.heap.size + 1 < W0.heap.size := HB1.out.lt
              have hsz2 : W0.heap.size ≤ wr.heap.size := HFr.out.size
              have HR5 := hideP (show Blk (w3.setCell ⟨wr.heap.size, 0, none⟩ (.string (xs.extract 3 xs.size))) wr.heap.size #[.string (xs.extract 3 xs.size), .int .i64 (kk : Int), .bool p, .bool q] 44 from by simpa using HB5.out.set 0 (.string (xs.extract 3 xs.size)))
              have HR1 := hideP (Blk.other (HB1.out.fr F9.out) (show wr.heap.size ≠ w.heap.size + 1 by omega) 0 (.string (xs.extract 3 xs.size)))
              have t0 := HR5.out.cell 0 rfl
              have t1 := HR5.out.cell 1 rfl
              have t2 := HR5.out.cell 2 rfl
              have t3 := HR5.out.cell 3 rfl
              have z0 := HR1.out.cell 0 rfl
              have z1 := HR1.out.cell 1 rfl
              have z2 := HR1.out.cell 2 rfl
              have z3 := HR1.out.cell 3 rfl
              have y0 := HR1.out.frozen 0
              have y1 := HR1.out.frozen 1
              have y2 := HR1.out.frozen 2
              have y3 := HR1.out.frozen 3
              have FR := hideP ((HF0.out.trans F9.out).setC wr.heap.size 0 (.string (xs.extract 3 xs.size)) (by omega))
              clear hf9 HS6 q0 q2 hz
              go_wp2_with fail
              refine bodyPost_ret (v := .tuple #[.agg #[.string (xs.extract 3 xs.size), .int .i64 (kk : Int), .bool p, .bool q], .bool true]) ?_ rfl ⟨?_, FR.out.put4 (w.heap.size + 1) (by omega) _ _ _ _⟩
              · have bb := HR1.out.put4 (.string (xs.extract 3 xs.size)) (.int .i64 (kk : Int)) (.bool p) (.bool q)
                have r0 := bb.cell 0 rfl
                have r1 := bb.cell 1 rfl
                have r2 := bb.cell 2 rfl
                have r3 := bb.cell 3 rfl
                change (results Tryd.f26 _).run Tryd.prog (put4 _ _ _ _ _ _) = .ok _ (put4 _ _ _ _ _ _)
                simp [results, Tryd.results26, go_sem, r0, r1, r2, r3]
              · obtain rfl := HG2.out
                try simp only [if_true]
                rw [HKl.out])
          · have HE := hideP hE
            obtain ⟨n1, n2⟩ := str_neq hE
            have HEk := HE
            generalize hP : CT.kc i = P at cT n1 n2
            have HP := hideP hP
            clear hE hP HKc HKl HCode
            go_wp2_with fail
            go_region_held3 (fun W => W.cell? ⟨w.heap.size, 0, none⟩ = some (.int .i64 2) ∧ W.cell? ⟨w.heap.size, 2, none⟩ = some (.string xs) ∧ W.cell? ⟨wr.heap.size, 0, none⟩ = some (.string ⟨#[]⟩) ∧ W.cell? ⟨wr.heap.size, 1, none⟩ = some (.int .i64 (kk : Int)) ∧ W.cell? ⟨wr.heap.size, 2, none⟩ = some (.bool p) ∧ W.cell? ⟨wr.heap.size, 3, none⟩ = some (.bool q)) (first | exact HS6.out | exact s6_after hz HS6.out | exact s6_after hf9 HS6.out) (first
          | (go_at_call 24; refine (cT _).mono ?_; rintro _ w3 ⟨rfl, f3⟩; have hf9 := hz.trans f3; clear f3))
            all_goals (
              go_wp2_with fail
              go_roundw
              case rel =>
                refine ⟨i + 1, by go_num, by omega, FW.out.trans hf9, ?_⟩
                intro j hj
                rcases Nat.lt_or_ge j i with h | h
                · exact HNo.out j h
                · obtain rfl : j = i := by omega
                  exact fun hh => HEk.out hh.2.2
              case measure => simp [intOf]; omega)
        · have h3' : (xs.size : Int) < 3 := by omega
          have h3'' : ((3 : Int) ≤ (xs.size : Int)) = False := by simp; omega
          have h3n : (3 ≤ xs.size) = False := by simp; omega
          have H3 := hideP h3
          clear h3
          go_wp2_with fail
          first | go_region | fail
          all_goals (
            go_wp2_with fail
            go_roundw
            case rel =>
              refine ⟨i + 1, by go_num, by omega, FW.out.trans hz, ?_⟩
              intro j hj hh
              exact H3.out hh.2.1
            case measure => simp [intOf]; omega)
      · have h2' : (xk == 2) = false := by simpa using h2
        go_wp2_with fail
        first | go_region | fail
        all_goals (
          go_wp2_with fail
          go_roundw
          case rel =>
            refine ⟨i + 1, by go_num, by omega, FW.out.trans hz, ?_⟩
            intro j hj hh
            exact h2 hh.1
          case measure => simp [intOf]; omega)
    · obtain rfl : i = 16 := by omega
      have hcb : cb = false := by
        cases hc : cb with
        | false => rfl
        | true =>
          obtain ⟨a1, a2, j, hj, a3⟩ := HCol.out hc
          exact absurd ⟨a1, a2, a3⟩ (HNo.out j hj)
      subst hcb
      have HR1 := hideP (HB1.out.fr HFr.out)
      have z0 := HR1.out.cell 0 rfl
      have z1 := HR1.out.cell 1 rfl
      have z2 := HR1.out.cell 2 rfl
      have z3 := HR1.out.cell 3 rfl
      have y0 := HR1.out.frozen 0
      have y1 := HR1.out.frozen 1
      have y2 := HR1.out.frozen 2
      have y3 := HR1.out.frozen 3
      have FR := hideP (HF0.out.trans HFr.out)
      clear HCode HNo HCol
      go_wp2_with fail
      refine bodyPost_ret (v := .tuple #[.agg #[.string ⟨#[]⟩, .int .i64 0, .bool false, .bool false], .bool false]) ?_ rfl ⟨?_, FR.out.put4 (w.heap.size + 1) (by omega) _ _ _ _⟩
      · have bb := HR1.out.put4 (.string ⟨#[]⟩) (.int .i64 0) (.bool false) (.bool false)
        have r0 := bb.cell 0 rfl
        have r1 := bb.cell 1 rfl
        have r2 := bb.cell 2 rfl
        have r3 := bb.cell 3 rfl
        change (results Tryd.f26 _).run Tryd.prog (put4 _ _ _ _ _ _) = .ok _ (put4 _ _ _ _ _ _)
        simp [results, Tryd.results26, go_sem, r0, r1, r2, r3]
      · rfl
end Go.Proofs.YtefojbfihnnpdaaDoor
