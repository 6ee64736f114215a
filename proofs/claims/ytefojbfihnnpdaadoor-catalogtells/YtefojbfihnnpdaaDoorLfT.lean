/-
  What rising and texts of package leaf answer, for every list of entries.
-/
import Derived.Test.YtefojbfihnnpdaaDoorLfP
namespace Go.Proofs.YtefojbfihnnpdaaDoor
open Go.ChangeShapes Go.WideShapes Go.ChangeAt Go.RowKit
set_option linter.unusedVariables false
set_option linter.unusedSimpArgs false
set_option maxRecDepth 100000

namespace LF
def rs (last id : Int) : Nat := if id < 1 then 3 else if id ≤ last then 4 else 0
theorem one_rs (last : Int) (e : En) : one last e = if rs last e.1 = 0 then VM.chkRow e.2 else rs last e.1 := by
  unfold one rs
  split
  · simp
  split
  · simp
  · simp
theorem chkE_cons (last : Int) (e : En) (l : List En) : chkE last (e :: l) = if one last e = 0 then chkE e.1 l else one last e := rfl
theorem rs_le (last id : Int) : rs last id ≤ 4 := by unfold rs; split; omega; split <;> omega
end LF

/-- the cell that keeps the last Id -/
def LsAt (w : World) (c : Nat) (last : Int) : Prop := w.heap[c]? = some (.cells #[.int .i64 last] 2 (0, 0))
theorem LsAt.lt {w : World} {c : Nat} {x : Int} (h : LsAt w c x) : c < w.heap.size := (Array.getElem?_eq_some_iff.1 h).1
theorem LsAt.fr {w w' : World} {c : Nat} {x : Int} (h : LsAt w c x) (f : Fr w w') : LsAt w' c x := (f.block c h.lt).trans h
theorem LsAt.cell {w : World} {c : Nat} {x : Int} (h : LsAt w c x) : w.cell? ⟨c, 0, none⟩ = some (.int .i64 x) := by rw [Lib.cell_of_heap h]; rfl
theorem LsAt.frozen {w : World} {c : Nat} {x : Int} (h : LsAt w c x) : w.frozen? ⟨c, 0, none⟩ = false := Lib.frozen_of_heap h 0
theorem LsAt.set {w : World} {c : Nat} {x : Int} (h : LsAt w c x) (y : Int) : LsAt (w.setCell ⟨c, 0, none⟩ (.int .i64 y)) c y := by
  unfold LsAt at *
  simp only [World.setCell, Array.getElem?_modify, if_pos, h]
  rfl

set_option maxHeartbeats 400000 in
theorem rising_any (w : World) : Calls Tryd.prog 51 #[] w fun e w' => e = .returned (.func (.func 61) #[] #[.pointer (some ⟨w.heap.size, 0, none⟩)]) ∧ LsAt w' w.heap.size 0 ∧ Fr w w' := by
  have hmf : ∀ (fn : Fn) (first cap : Array Value) (w : World), (Instr.makeFunc fn first cap).run Tryd.prog w = .ok (.func fn first cap) w := fun _ _ _ _ => rfl
  go_enter Tryd.func51, Tryd.ntmps51
  go_wp2_with fail
  go_ret
  exact ⟨rfl, alloc_heap w _, (Fr.refl w).alloc _⟩

set_option maxHeartbeats 400000 in
theorem risingClo_any (id last : Int) (c : Nat) (w : World) (h : LsAt w c last) :
    Calls Tryd.prog 61 #[.int .i64 id, .pointer (some ⟨c, 0, none⟩)] w fun e w' => e = .returned (.int .i64 (LF.rs last id)) ∧ LsAt w' c (if LF.rs last id = 0 then id else last) ∧ Mv c w w' := by
  have k0 := h.cell
  have z0 := h.frozen
  have HL : Hid _ := h
  clear h
  by_cases h1 : id < 1
  · have e1 : LF.rs last id = 3 := if_pos h1
    rw [e1]
    clear e1
    go_enter Tryd.func61, Tryd.ntmps61
    go_wp2_with fail
    go_ret
    exact ⟨rfl, HL.out, Mv.refl _ _⟩
  · by_cases h2 : id ≤ last
    · have e1 : LF.rs last id = 4 := by unfold LF.rs; rw [if_neg h1, if_pos h2]
      rw [e1]
      clear e1
      have h1' : 1 ≤ id := by omega
      clear h1
      go_enter Tryd.func61, Tryd.ntmps61
      go_wp2_with fail
      go_ret
      exact ⟨rfl, HL.out, Mv.refl _ _⟩
    · have e1 : LF.rs last id = 0 := by unfold LF.rs; rw [if_neg h1, if_neg h2]
      rw [e1]
      clear e1
      have h1' : 1 ≤ id := by omega
      have h2' : last < id := by omega
      clear h1 h2
      go_enter Tryd.func61, Tryd.ntmps61
      go_wp2_with fail
      go_ret
      exact ⟨rfl, LsAt.set HL.out id, (Mv.refl c w).set 0 _⟩

def strV (e : LF.En) : Value := .string ⟨(LF.eb e).toArray⟩
/-- texts that the call owns -/
structure Os (B : Nat) (v : Value) (l : List LF.En) (w : World) : Prop where
  own : w.ownsRow B 9 1 v l.length (l.map strV)
theorem Os.fr {B : Nat} {v : Value} {l : List LF.En} {w w' : World} (h : Os B v l w) (f : Fr w w') : Os B v l w' :=
  ⟨own_keep h.own fun k cur _ hk => f.block k (Array.getElem?_eq_some_iff.1 hk).1⟩
theorem Os.mv {B c : Nat} {x : Int} {v : Value} {l : List LF.En} {w w' : World} (h : Os B v l w) (hc : LsAt w c x) (f : Mv c w w') : Os B v l w' :=
  ⟨own_keep h.own fun k cur _ hk => f.2 k (Array.getElem?_eq_some_iff.1 hk).1 (fun e => by
    subst e
    unfold LsAt at hc
    rw [hc] at hk
    simp only [Option.some.injEq, Obj.cells.injEq] at hk
    exact absurd hk.2.1 (by decide))⟩
theorem ls_grown {w w' : World} {r : Option Nat} {T : TypeId} {c : Nat} {x : Int} (hT : T ≠ 2) (hr : ∀ g, r = some g → ∃ cur, w.heap[g]? = some (.cells cur T (0, 0))) (hg : w.grownBy w' r) (h : LsAt w c x) : LsAt w' c x := by
  refine (hg.block c h.lt ?_).trans h
  intro e
  obtain ⟨cur2, h2⟩ := hr c e.symm
  unfold LsAt at h
  rw [h] at h2
  simp only [Option.some.injEq, Obj.cells.injEq] at h2
  exact hT h2.2.1.symm
theorem zig_zigN (n : Int) : (zigN n).toNat = WM.zig n := by unfold zigN WM.zig; rfl
theorem ba_app (a b : List UInt8) : (⟨a.toArray⟩ : ByteArray) ++ ⟨b.toArray⟩ = ⟨(a ++ b).toArray⟩ := by
  apply ByteArray.ext
  simp

/-- what texts answers -/
def TextsAs (B : Nat) (l : List LF.En) (e : Ending) (w' : World) : Prop :=
  if LF.chk l = 0 then ∃ u, e = .returned (.tuple #[u, .int .i64 0]) ∧ Os B u l w' else e = .returned (.tuple #[.slice none 0 0, .int .i64 (LF.chk l)])

set_option maxHeartbeats 4000000 in
theorem texts_any (v : Value) (l : List LF.En) (w : World) (hv : IsEn w v l) (hl : l.length ≤ 9223372036854775806) (hb : ∀ e ∈ l, LF.wideE e ∧ e.2.length ≤ 9223372036854775807) :
    Calls Tryd.prog 41 #[v] w fun e w' => TextsAs w.heap.size l e w' ∧ Fr w w' := by
  obtain ⟨i0, hi0, hz0, hz1, hz2⟩ := info_parts Tryd.infoStr
  obtain ⟨a, cap, rfl, hcs⟩ := hv
  have HC := hideP (hcs)
  have HB := hideP (hb)
  clear hcs hb
  by_cases h40 : 40 < l.length
  · have h40' : (40 : Int) < (l.length : Int) := by omega
    have e1 : LF.chk l = 2 := if_pos h40
    have HX := hideP e1
    clear e1 h40
    go_enter Tryd.func41, Tryd.ntmps41
    go_wp2_with fail
    go_ret2
    refine ⟨?_, Fr.refl _⟩
    unfold TextsAs
    rw [HX.out]
    rfl
  · have h40' : ¬ (40 : Int) < (l.length : Int) := by omega
    have e1 : LF.chk l = LF.chkE 0 l := if_neg h40
    have HE := hideP e1
    clear e1
    have hri := rising_any w
    go_enter Tryd.func41, Tryd.ntmps41
    go_wp2_with fail
    refine hri.mono ?_
    rintro _ w1 ⟨rfl, hls, hf1⟩
    have HF1 := hideP (hf1)
    have HL1 := hideP (hls)
    have hsz := hf1.size
    clear hri hf1 hls
    go_wp2_with fail
    go_loopw [4, 17] (fun tv iv wr => ∃ (i : Nat), iv = .int .i64 i ∧ i ≤ l.length ∧ Os w.heap.size tv (l.take i) wr ∧ LsAt wr w.heap.size (LF.lst 0 (l.take i)) ∧ LF.chkE 0 l = LF.chkE (LF.lst 0 (l.take i)) (l.drop i) ∧ Fr w wr) (fun _ iv _ => l.length - (intOf iv).toNat)
    case atStart => exact ⟨0, rfl, Nat.zero_le _, ⟨⟨rfl, Or.inl ⟨rfl, rfl⟩⟩⟩, HL1.out, rfl, HF1.out⟩
    case round =>
      obtain ⟨i, rfl, hi, hos, hls, hall, hfr⟩ := hrel
      have hcw := hls.lt
      have HLS := hideP (hls)
      have HOS := hideP (hos)
      have HFR := hideP (hfr)
      have HA := hideP (hall)
      by_cases hlt : i < l.length
      · obtain ⟨b, o, rfl, hb, hc⟩ : ∃ b o, a = some ⟨b, o, none⟩ ∧ b < w.heap.size ∧ EnAt w b o l := by
          rcases HC.out with h | h
          · subst h; simp at hlt
          · exact h
        obtain ⟨c0', rv, c1', hrow⟩ := hc i hlt
        have c0 := (Below.cell hfr hb).trans c0'
        have c1 := (Below.cell hfr hb).trans c1'
        clear c0' c1'
        have hwd := HB.out l[i] (List.getElem_mem hlt)
        have htk : l.take (i + 1) = l.take i ++ [l[i]] := List.take_succ_eq_append_getElem hlt
        have hdr : l.drop i = l[i] :: l.drop (i + 1) := List.drop_eq_getElem_cons hlt
        generalize l[i] = x at *
        obtain ⟨id, r⟩ := x
        simp only at c0 c1 hrow hwd
        obtain ⟨⟨hid, hwr⟩, hrl⟩ := hwd
        rw [hdr, LF.chkE_cons, LF.one_rs] at hall
        simp only at hall hid hwr
        generalize hlast : LF.lst 0 (l.take i) = last at *
        have HLA := hideP (hlast)
        have HALL := hideP (hall)
        have HTK := hideP (htk)
        have HROW := hideP (hrow)
        obtain ⟨ar, capr, rfl, _⟩ := hrow
        have hlt' : (i : Int) < (l.length : Int) := by omega
        have hls2 : LsAt (wr.alloc (.cells #[.int .i64 id, .slice ar r.length capr] 53)) w.heap.size last := HLS.out.fr ((Fr.refl _).alloc _)
        have hck := risingClo_any id last w.heap.size _ hls2
        have htop := alloc_top wr (.cells #[.int .i64 id, .slice ar r.length capr] 53)
        have HTOP := hideP (htop)
        have hFA : Fr w (wr.alloc (.cells #[.int .i64 id, .slice ar r.length capr] 53)) := hfr.alloc _
        have HFA := hideP (hFA)
        have HOA := hideP (hos.fr ((Fr.refl wr).alloc (.cells #[.int .i64 id, .slice ar r.length capr] 53)))
        have HLS2 := hideP (hls2)
        have hszA : (wr.alloc (.cells #[.int .i64 id, .slice ar r.length capr] 53)).heap.size = wr.heap.size + 1 := alloc_size _ _
        have HSZ := hideP (hszA)
        clear hls hos hfr hall htk hdr hlast hls2 htop hFA hc hszA
        go_wp2_with fail
        refine hck.mono ?_
        rintro _ w2 ⟨rfl, hls3, hmv⟩
        have hbox : w2.heap[wr.heap.size]? = some (.cells #[.int .i64 id, .slice ar r.length capr] 53 (0, 0)) := (hmv.2 _ (by rw [HSZ.out]; omega) (by omega)).trans HTOP.out
        have HF2 : Hid (Fr w w2) := Below.trans HFA.out (hmv.1 _ (Nat.le_refl _) (by rw [HSZ.out]; omega))
        have hos2 := HOA.out.mv HLS2.out hmv
        have HRW := hideP (IsRow.fr HROW.out HF2.out)
        have HOS2 := hideP hos2
        have HLS3 := hideP hls3
        have b0 : w2.cell? ⟨wr.heap.size, 0, none⟩ = some (.int .i64 id) := by rw [Lib.cell_of_heap hbox]; rfl
        have b1 : w2.cell? ⟨wr.heap.size, 1, none⟩ = some (.slice ar r.length capr) := by rw [Lib.cell_of_heap hbox]; rfl
        have hbl : wr.heap.size < w2.heap.size := (Array.getElem?_eq_some_iff.1 hbox).1
        clear hck hmv hos2 hls3 HOA HLS2 HTOP HSZ HFA hbox c0 c1
        by_cases hrs : LF.rs last id = 0
        · rw [hrs]
          rw [hrs] at HALL HLS3
          simp only [if_true] at HALL HLS3
          by_cases hcr : VM.chkRow r = 0
          · have hcw := recWrite_ok _ r w2 HRW.out hwr hcr
            rw [hcr] at HALL
            simp only [if_true] at HALL
            have hsg := fun W => signed_any id W hid.1 hid.2
            rw [zig_zigN] at hsg
            have hrln := LF.row_len hcr hwr
            have hiln : (NM.enc (WM.zig id)).length ≤ 10 := NM.enc_ten (LF.zig_lt (e := (id, r)) ⟨hid, hwr⟩)
            have happ : (⟨(NM.enc (WM.zig id)).toArray⟩ : ByteArray) ++ ⟨(WM.row r).toArray⟩ = ⟨(LF.eb (id, r)).toArray⟩ := ba_app _ _
            have hs1 : (⟨(NM.enc (WM.zig id)).toArray⟩ : ByteArray).size ≤ 10 := by rw [mk_size]; exact hiln
            have hs2 : (⟨(WM.row r).toArray⟩ : ByteArray).size ≤ 145 := by rw [mk_size]; exact hrln
            generalize (⟨(NM.enc (WM.zig id)).toArray⟩ : ByteArray) = S1 at *
            generalize (⟨(WM.row r).toArray⟩ : ByteArray) = S2 at *
            have HAPP := hideP happ
            clear happ hrln hiln
            go_wp2_with fail
            refine hcw.mono ?_
            rintro _ w3 ⟨rfl, hf3⟩
            have b0' := (Below.cell hf3 hbl).trans b0
            have hos3 := Os.fr HOS2.out hf3
            have hls4 := LsAt.fr HLS3.out hf3
            have HF3 := hideP (Fr.trans HF2.out hf3)
            have HL4 := hideP hls4
            have HO3 := hideP hos3
            clear hcw hf3 b0 b1 hos3 hls4 HOS2 HLS3 HRW HF2
            go_wp2_with fail
            refine (hsg _).mono ?_
            rintro _ w4 ⟨rfl, hf4⟩
            have hos4 := Os.fr HO3.out hf4
            have HL5 := hideP (LsAt.fr HL4.out hf4)
            have HF4 := hideP (Fr.trans HF3.out hf4)
            have hw4 : w.heap.size ≤ w4.heap.size := HF4.out.size
            have hil : (l.take i).length = i := by rw [List.length_take]; omega
            have HOW := hideP ((Os.fr hos4 ((Fr.refl w4).alloc (.cells #[.string (S1 ++ S2)] 9))).own)
            have HBK := hideP (own_block HOW.out)
            have HL6 := hideP (LsAt.fr HL5.out ((Fr.refl w4).alloc (.cells #[.string (S1 ++ S2)] 9)))
            have HF5 := hideP (HF4.out.alloc (.cells #[.string (S1 ++ S2)] 9))
            clear hsg hf4 HL4 HO3 HF3 hos4 HL5 HF4
            go_wp2_with (at_builtin; refine wpList_append_own _ rfl _ _ 76 rfl w.heap.size 9 i0 (.string ⟨#[]⟩) 1 16 Tryd.underlying76 hi0 hz0 hz1 hz2 rfl (by decide) _ _ _ rfl HOW.out ⟨w4.heap.size, 0, none⟩ 1 1 [.string (S1 ++ S2)] rfl rfl ?c1 ?c2 ?c3 ?c4 ?c5 ?_)
            case c1 => exact cell_one_new _ _ _
            case c2 => intro u hu; simp at hu; subst hu; rfl
            case c3 => unfold maxLen; omega
            case c4 => omega
            case c5 => simp; omega
            intro v' w5 hown' hgrow _
            have HN : Hid (Os w.heap.size v' (l.take (i + 1)) w5) := ⟨by
              rw [HTK.out, List.length_append, List.map_append]
              have e : strV (id, r) = .string (S1 ++ S2) := by rw [HAPP.out]; rfl
              simp only [List.map_cons, List.map_nil, e, hil, List.map_take]
              exact hown'⟩
            have HL7 : Hid (LsAt w5 w.heap.size (LF.lst 0 (l.take (i + 1)))) := by
              rw [HTK.out, LF.lst_snoc]
              exact ls_grown (T := 9) (by decide) HBK.out hgrow HL6.out
            have HF6 : Hid (Fr w w5) := Below.grown HF5.out hgrow (by simp; omega) (fun k hk => (HOW.out.lt k hk).1)
            have HA2 : Hid (LF.chkE 0 l = LF.chkE (LF.lst 0 (l.take (i + 1))) (l.drop (i + 1))) := by
              rw [HTK.out, LF.lst_snoc]
              exact HALL.out
            clear hown' hgrow HOW HBK HL6 HF5
            go_wp2_with fail
            go_roundw
            case rel => exact ⟨i + 1, by go_num, by omega, HN.out, HL7.out, HA2.out, HF6.out⟩
            case measure => simp [intOf]; omega
          · have hcw := recWrite_bad _ r w2 HRW.out (by omega) hcr
            rw [if_neg hcr] at HALL
            have q1 : ((VM.chkRow r : Int) != 0) = true := by simp; omega
            have q2 : ¬ ((VM.chkRow r : Int) = 0) := by omega
            generalize VM.chkRow r = c at *
            have HX : Hid (LF.chkE 0 l = c) := HALL.out
            have hne : ¬ c = 0 := hcr
            clear HALL hcr
            go_wp2_with fail
            refine hcw.mono ?_
            rintro _ w3 ⟨rfl, hf3⟩
            have HF3 := hideP (Fr.trans HF2.out hf3)
            clear hcw hf3 b0 b1
            go_wp2_with fail
            go_ret2
            refine ⟨?_, HF3.out⟩
            unfold TextsAs
            rw [HE.out, HX.out, if_neg hne]
            rfl
        · rw [if_neg hrs, if_neg hrs] at HALL
          have q1 : ((LF.rs last id : Int) != 0) = true := by simp; omega
          have q2 : ¬ ((LF.rs last id : Int) = 0) := by omega
          generalize LF.rs last id = c at *
          have HX : Hid (LF.chkE 0 l = c) := HALL.out
          clear HALL
          go_wp2_with fail
          go_ret2
          refine ⟨?_, HF2.out⟩
          unfold TextsAs
          rw [HE.out, HX.out, if_neg hrs]
          rfl
      · obtain rfl : i = l.length := by omega
        have hx : LF.chkE 0 l = 0 := by rw [HA.out, List.drop_of_length_le (Nat.le_refl _)]; rfl
        rw [List.take_of_length_le (Nat.le_refl _)] at HOS
        have HX := hideP hx
        clear hx hall hls hos hfr
        go_wp2_with fail
        go_ret2
        refine ⟨?_, HFR.out⟩
        unfold TextsAs
        rw [HE.out, if_pos HX.out]
        exact ⟨_, rfl, HOS.out⟩
end Go.Proofs.YtefojbfihnnpdaaDoor
