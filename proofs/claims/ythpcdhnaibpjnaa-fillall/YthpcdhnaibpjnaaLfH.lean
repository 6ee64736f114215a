/-
  What Fill of package leaf answers, for every list of entries.
-/
import Derived.Test.YthpcdhnaibpjnaaLfG
import Derived.Test.YthpcdhnaibpjnaaLfV
import Derived.Deep.RegionLaw
namespace Go.Proofs.Ythpcdhnaibpjnaa
open Go.ChangeShapes Go.WideShapes Go.ChangeAt Go.RowKit Go.Shelf
set_option linter.unusedVariables false
set_option linter.unusedSimpArgs false
set_option maxRecDepth 100000

/-- what Fill answers -/
def FillAs (B : Nat) (l : List LF.En) (e : Ending) (w' : World) : Prop :=
  if LF.chk l = 0 then ∃ u ps, e = .returned (.tuple #[u, .int .i64 0]) ∧ Os2 B u ps w' ∧ mp ps = LF.fill l else e = .returned (.tuple #[.slice none 0 0, .int .i64 (LF.chk l)])
theorem Os.grownT {B : Nat} {v : Value} {l : List LF.En} {w w' : World} {r : Option Nat} {T : TypeId} (h : Os B v l w) (hT : T ≠ 9) (hr : ∀ g, r = some g → ∃ cur, w.heap[g]? = some (.cells cur T (0, 0))) (hg : w.grownBy w' r) : Os B v l w' :=
  ⟨own_keep h.own fun k cur _ hk => hg.block k (Array.getElem?_eq_some_iff.1 hk).1 (fun e => by
    obtain ⟨c2, h2⟩ := hr k e.symm
    exact ne_ty hT h2 hk rfl)⟩
theorem Os.set {B : Nat} {v u : Value} {l : List LF.En} {w : World} {g o : Nat} {cur : Array Value} {T : TypeId} (h : Os B v l w) (hT : T ≠ 9) (hg : w.heap[g]? = some (.cells cur T (0, 0))) : Os B v l (w.setCell ⟨g, o, none⟩ u) :=
  ⟨own_keep h.own fun k c2 _ hk => Below.heap_setCell _ _ _ _ (by simpa using (ne_ty hT hg hk).symm)⟩
theorem Os.cell {B : Nat} {v : Value} {l : List LF.En} {w : World} (h : Os B v l w) (i : Nat) (hi : i < l.length) :
    ∃ g cap, v = .slice (some ⟨g, 0, none⟩) l.length cap ∧ w.cell? ⟨g, i, none⟩ = some (strV l[i]) := by
  rcases h.own.2 with ⟨_, h0⟩ | ⟨g, cap, cur, e1, e2, e3, e4, e5, e6, e7⟩
  · omega
  · refine ⟨g, cap, e1, ?_⟩
    rw [Lib.cell_of_heap e3]
    have : (l.map strV)[i]? = some (strV l[i]) := by simp [hi]
    rw [← e7, List.getElem?_take] at this
    split at this
    · rw [← this, Array.getElem?_toList]
    · cases this
theorem Os2.own {B : Nat} {v : Value} {ps : List (List Ev)} {w : World} (h : Os2 B v ps w) : ∃ vs, w.ownsRow B 22 1 v ps.length vs := by
  rcases h with ⟨rfl, rfl⟩ | ⟨is, last, lv, rfl, h⟩
  · exact ⟨[], ⟨rfl, Or.inl ⟨rfl, rfl⟩⟩⟩
  · refine ⟨is.map (·.2) ++ [lv], ?_⟩
    have := h.own
    rw [List.length_append, List.length_map]
    exact this
theorem Os2.fr {B : Nat} {v : Value} {ps : List (List Ev)} {w w' : World} (h : Os2 B v ps w) (f : Fr w w') : Os2 B v ps w' := by
  rcases h with h | ⟨is, last, lv, e, h⟩
  · exact Or.inl h
  · exact Or.inr ⟨is, last, lv, e, h.fr f⟩
theorem chkE_get : ∀ {last : Int} {l : List LF.En} {e : LF.En}, LF.chkE last l = 0 → e ∈ l → ∃ b, LF.one b e = 0
  | _, [], _, _, he => by simp at he
  | last, a :: l, e, h, he => by
    rw [LF.chkE_cons] at h
    split at h
    · rename_i h1
      rcases List.mem_cons.1 he with rfl | he
      · exact ⟨_, h1⟩
      · exact chkE_get h he
    · rename_i h1; exact absurd h h1
theorem Try.infoEns : (Try.prog.info? 22).map (fun i => (i.zero, i.size, i.bytes)) = some (some (.slice none 0 0), 1, 24) := by kernel_rfl
theorem own_shape {B n sz : Nat} {T : TypeId} {v : Value} {xs : List Value} {w : World} (h : w.ownsRow B T sz v (n + 1) xs) : ∃ g cap, v = .slice (some ⟨g, 0, none⟩) (n + 1) cap := by
  rcases h.2 with ⟨_, h0⟩ | ⟨g, cap, cur, e1, _⟩
  · omega
  · exact ⟨g, cap, e1⟩
theorem Ol.grow' {B : Nat} {lv v' : Value} {is : List (List Ev × Value)} {last : List Ev} {p : Ev} {w w' : World} {g cap n : Nat} {cur : Array Value} (hn : is.length = n) (h : Ol B (.slice (some ⟨g, 0, none⟩) (n + 1) cap) is last lv w) (hB : B ≤ w.heap.size)
    (hp : IsRowB 0 w p.2 p.1.2) (ho : w'.ownsRow B 43 2 v' (last.length + 1) (esV last ++ evC p)) (hg : w.grownBy w' lv.ownBlock) (hat : v'.ownBlock = lv.ownBlock ∨ v'.ownBlock = some w.heap.size)
    (hc : w.heap[g]? = some (.cells cur 22 (0, 0))) :
    Ol B (.slice (some ⟨g, 0, none⟩) (n + 1) cap) is (last ++ [p]) v' (w'.setCell ⟨g, n, none⟩ v') := by
  subst hn
  exact Ol.grow h hB hp ho hg hat rfl hc
/-- a block of lists, behind an append to one of them -/
theorem lists_kept {w w' : World} {B n : Nat} {lv : Value} {xs : List Value} {g : Nat} {cur : Array Value} (h : w.ownsRow B 43 2 lv n xs) (hg : w.grownBy w' lv.ownBlock) (hc : w.heap[g]? = some (.cells cur 22 (0, 0))) : w'.heap[g]? = some (.cells cur 22 (0, 0)) :=
  (hg.block g (Array.getElem?_eq_some_iff.1 hc).1 (fun e => by
    obtain ⟨c2, h2⟩ := own_block h g e.symm
    exact ne_ty (T1 := 43) (T2 := 22) (by decide) h2 hc rfl)).trans hc
/-- the arms' own words: what is known of the worlds that a region passes through -/
theorem s3_fr {W W' : World} {p q r : Addr} {a b c : Value} (hp : p.block < W.heap.size) (hq : q.block < W.heap.size) (hr : r.block < W.heap.size) (f : Fr W W') (h : W.cell? p = some a ∧ W.cell? q = some b ∧ W.cell? r = some c) : W'.cell? p = some a ∧ W'.cell? q = some b ∧ W'.cell? r = some c := by
  obtain ⟨h1, h2, h3⟩ := h
  exact ⟨(World.cell?_of_block (f.block _ hp)).trans h1, (World.cell?_of_block (f.block _ hq)).trans h2, (World.cell?_of_block (f.block _ hr)).trans h3⟩

set_option maxHeartbeats 4000000 in
theorem fill_any (v : Value) (l : List LF.En) (w : World) (hv : IsEn w v l) (hl : l.length ≤ 9223372036854775806) (hb : ∀ e ∈ l, LF.wideE e ∧ e.2.length ≤ 9223372036854775807) :
    Calls Try.prog 17 #[v] w fun e w' => FillAs w.heap.size l e w' ∧ Fr w w' := by
  have ht := texts_any v l w hv hl hb
  obtain ⟨i0, hi0, hz0, hz1, hz2⟩ := info_parts Try.infoEn
  obtain ⟨i1, hi1, hy0, hy1, hy2⟩ := info_parts Try.infoEns
  obtain ⟨a, cap, rfl, hcs⟩ := hv
  have HC := hideP hcs
  clear hcs
  by_cases h0 : LF.chk l = 0
  · simp only [TextsAs, if_pos h0] at ht
    obtain ⟨h40, hce⟩ := LF.chk_ok h0
    have HB := hideP hb
    have HCE := hideP hce
    have HX := hideP h0
    have hl64 : (l.length : Int) ≤ 40 := by omega
    clear hb hce h0
    go_enter Try.func17, Try.ntmps17
    go_wp2_with fail
    refine ht.mono ?_
    rintro _ w1 ⟨⟨tv, rfl, hos⟩, hf⟩
    have HOS := hideP hos
    have HF := hideP hf
    clear ht hos hf
    go_wp2_with fail
    go_loopw [6, 7, 21] (fun lv rv iv wr => ∃ (i room : Nat) (ps : List (List Ev)), iv = .int .i64 i ∧ rv = .int .i64 room ∧ i ≤ l.length ∧ room ≤ 244 ∧ ps.length ≤ i ∧ (ps = [] → room = 0) ∧ (∀ p ∈ ps, p.length ≤ i) ∧ Os2 w.heap.size lv ps wr ∧ Os w.heap.size tv l wr ∧ LF.fill l = LF.fl room (mp ps) (l.drop i) ∧ Fr w wr) (fun _ _ iv _ => l.length - (intOf iv).toNat)
    case atStart => exact ⟨0, 0, [], rfl, rfl, Nat.zero_le _, Nat.zero_le _, Nat.zero_le _, fun _ => rfl, (fun p hp => by simp at hp), Or.inl ⟨rfl, rfl⟩, HOS.out, rfl, HF.out⟩
    case round =>
      obtain ⟨i, room, ps, rfl, rfl, hi, hroom, hpi, hps, hpl2, hos2, hos, hfill, hfr⟩ := hrel
      have HPL := hideP hpl2
      clear hpl2
      by_cases hlt : i < l.length
      · obtain ⟨b, o, rfl, hb, hc⟩ : ∃ b o, a = some ⟨b, o, none⟩ ∧ b < w.heap.size ∧ EnAt w b o l := by
          rcases HC.out with h | h
          · subst h; simp at hlt
          · exact h
        obtain ⟨c0', rv, c1', hrow⟩ := hc i hlt
        have c0 := (Below.cell hfr hb).trans c0'
        have c1 := (Below.cell hfr hb).trans c1'
        obtain ⟨gt, capt, htv, ht0⟩ := hos.cell i hlt
        have hwd := (HB.out l[i] (List.getElem_mem hlt)).1
        obtain ⟨bb, hone⟩ := chkE_get HCE.out (List.getElem_mem hlt)
        have hdr : l.drop i = l[i] :: l.drop (i + 1) := List.drop_eq_getElem_cons hlt
        rw [hdr, LF.fl_cons] at hfill
        have hel := LF.eb_len hone hwd
        have hep := LF.eb_pos l[i]
        have hr8 := (WM.chkRow_ok (LF.one_ok hone).2.2).1
        unfold strV at ht0
        have HTC : Hid (∀ W, Os w.heap.size (.slice (some ⟨gt, 0, none⟩) l.length capt) l W → W.cell? ⟨gt, i, none⟩ = some (.string ⟨(LF.eb l[i]).toArray⟩)) := fun W hW => by
          obtain ⟨g', cap', e1, e2⟩ := hW.cell i hlt
          simp only [Value.slice.injEq, Option.some.injEq, Addr.mk.injEq, and_true, true_and] at e1
          rw [e1.1]
          exact e2
        have hsz : (⟨(LF.eb l[i]).toArray⟩ : ByteArray).size = (LF.eb l[i]).length := mk_size _
        generalize l[i] = x at *
        obtain ⟨id, r⟩ := x
        simp only at c0 c1 hrow hr8
        generalize hE : LF.eb (id, r) = E at *
        generalize (⟨E.toArray⟩ : ByteArray) = S at *
        subst htv
        have HROW := hideP hrow
        obtain ⟨ar, capr, rfl, _⟩ := hrow
        have hlt' : (i : Int) < (l.length : Int) := by omega
        have htb : gt < wr.heap.size := by
          have := World.block_lt_of_cell? _ _ ht0
          exact this
        obtain ⟨wb, hwb⟩ : ∃ wb, wr.alloc (.cells #[.int .i64 id, .slice ar r.length capr] 43) = wb := ⟨_, rfl⟩
        have hfb : Fr wr wb := by rw [← hwb]; exact (Fr.refl wr).alloc _
        have hbox : wb.heap[wr.heap.size]? = some (.cells #[.int .i64 id, .slice ar r.length capr] 43 (0, 0)) := by rw [← hwb]; exact alloc_heap wr _
        have hsb : wb.heap.size = wr.heap.size + 1 := by rw [← hwb]; exact alloc_size _ _
        have HWB := hideP hwb
        have HOSB := hideP (hos.fr hfb)
        have HO2B := hideP (hos2.fr hfb)
        have HO2R := hideP hos2
        have HFB := hideP (hfr.trans hfb)
        have HBOX := hideP hbox
        have HSB := hideP hsb
        have hws := hfr.size
        clear c0' c1' hone hdr hc hwd hbox hsb hfb hos hos2 hE hi hwb
        by_cases hgt : room < E.length
        · have hgt' : (room : Int) < (S.size : Int) := by omega
          rw [if_pos hgt] at hfill
          have HFI := hideP hfill
          clear hfill
          obtain ⟨vs, hvs⟩ := Os2.own HO2B.out
          rw [← HWB.out] at HSB HBOX HO2B HOSB HFB hvs
          have hfc : Fr (wr.alloc (.cells #[.int .i64 id, .slice ar r.length capr] 43)) ((wr.alloc (.cells #[.int .i64 id, .slice ar r.length capr] 43)).alloc (.cells #[.slice none 0 0] 22)) := (Fr.refl _).alloc _
          have HVS : Hid (((wr.alloc (.cells #[.int .i64 id, .slice ar r.length capr] 43)).alloc (.cells #[.slice none 0 0] 22)).ownsRow w.heap.size 22 1 u6 ps.length vs) := own_keep hvs fun k cur _ hk => hfc.block k (Array.getElem?_eq_some_iff.1 hk).1
          have HO2C := hideP (Os2.fr HO2B.out hfc)
          have HOSC := hideP (Os.fr HOSB.out hfc)
          have HFC := hideP (Fr.trans HFB.out hfc)
          have HBXC := hideP ((hfc.block _ (by rw [HSB.out]; omega)).trans HBOX.out)
          have hcn := cell_one_new (wr.alloc (.cells #[.int .i64 id, .slice ar r.length capr] 43)) (.slice none 0 0) 22
          rw [HSB.out] at hcn
          have HCN := hideP hcn
          have hpl : ps.length ≤ 40 := by omega
          clear hvs hfc hcn HOSB HO2B HFB
          go_wp2_with (at_builtin; refine wpList_append_own _ rfl _ _ 36 rfl w.heap.size 22 i1 (.slice none 0 0) 1 24 Try.underlying36 hi1 hy0 hy1 hy2 rfl (by decide) _ _ _ rfl HVS.out ⟨wr.heap.size + 1, 0, none⟩ 1 1 [.slice none 0 0] rfl rfl ?c1 ?c2 ?c3 ?c4 ?c5 ?_)
          case c1 => exact HCN.out
          case c2 => intro u hu; simp at hu; subst hu; rfl
          case c3 => unfold maxLen; omega
          case c4 => omega
          case c5 => simp; omega
          intro v' wd hown' hgrow _
          obtain ⟨is, hisE, hol⟩ := Os2.begin HO2C.out HVS.out hown' hgrow
          have hbk := own_block HVS.out
          have HOL := hideP hol
          have HOSW := hideP (Os.grownT (T := 22) HOSC.out (by decide) hbk hgrow)
          have HFW : Hid (Fr w wd) := Below.grown HFC.out hgrow (Fr.size HFC.out) (fun k hk => (HVS.out.lt k hk).1)
          have HBX : Hid (wd.heap[wr.heap.size]? = some (.cells #[.int .i64 id, .slice ar r.length capr] 43 (0, 0))) := (hgrow.block _ (Array.getElem?_eq_some_iff.1 HBXC.out).1 (fun e => by
            obtain ⟨c2, h2⟩ := hbk _ e.symm
            exact ne_ty (T1 := 22) (T2 := 43) (by decide) h2 HBXC.out rfl)).trans HBXC.out
          have hisl0 : is.length ≤ 40 := by rw [hisE, List.length_map] at hpl; exact hpl
          have HISE := hideP hisE
          have HNB : Hid (∀ k, (Value.slice none 0 0).ownBlock = some k → k < wr.heap.size) := fun k hk => by cases hk
          have hll : ([] : List Ev).length ≤ 40 := Nat.zero_le _
          have HRM : Hid (Value.int .i64 ((244 : Int) - (E.length : Int)) = .int .i64 ((244 - E.length : Nat) : Int)) := by unfold Hid; congr 1; omega
          have HLE : Hid (∀ p : List Ev, (is.map (·.1) ++ [p]).length ≤ i + 1) := fun p => by rw [List.length_append, ← hisE]; simp; omega
          have HPP : Hid (∀ (e : Ev) (q : List Ev), q ∈ is.map (·.1) ++ [([] : List Ev) ++ [e]] → q.length ≤ i + 1) := fun e q hq => by
            rw [List.mem_append, List.mem_singleton, ← hisE] at hq
            rcases hq with hq | rfl
            · have := HPL.out q hq; omega
            · simp
          have HFE : Hid (∀ u : Value, LF.fill l = LF.fl (244 - E.length) (mp (is.map (·.1) ++ [([] : List Ev) ++ [((id, r), u)]])) (l.drop (i + 1))) := fun u => by
            rw [HFI.out, ← hisE]
            simp [mp]
          clear hown' hgrow hol hbk HVS HO2C HOSC HFC HBXC HCN hisE
          obtain ⟨g, capl, cur, rfl, hgB, hgc, hk⟩ := Ol.cell HOL.out
          have HGC := hideP hgc
          have hbx : wd.heap[wr.heap.size]? = some (.cells #[.int .i64 id, .slice ar r.length capr] 43 (0, 0)) := HBX.out
          have b0 : wd.cell? ⟨wr.heap.size, 0, none⟩ = some (.int .i64 id) := by rw [Lib.cell_of_heap hbx]; rfl
          have b1 : wd.cell? ⟨wr.heap.size, 1, none⟩ = some (.slice ar r.length capr) := by rw [Lib.cell_of_heap hbx]; rfl
          have hz : wd.frozen? ⟨g, is.length, none⟩ = false := Lib.frozen_of_heap hgc _
          have hgl : g < wd.heap.size := (Array.getElem?_eq_some_iff.1 hgc).1
          have hbl : wr.heap.size < wd.heap.size := (Array.getElem?_eq_some_iff.1 hbx).1
          have HRW := hideP (IsRow.fr HROW.out HFW.out)
          have hcl : ∀ W2, Fr wd W2 → Calls Try.prog 37 #[.slice ar r.length capr] W2 fun e w' => ∃ v', e = .returned v' ∧ Fr W2 w' ∧ IsRowB W2.heap.size w' v' r := fun W2 f2 => clone_any _ r W2 (IsRow.fr HRW.out f2) (by omega)
          clear hgc hbx
          generalize hn : is.length = n at *
          have HN := hideP hn
          have hnI : (n : Int) ≤ 40 := by omega
          clear hn
          have F0 := hideP (Fr.refl wd)
          have HZ := hideP hz
          have HK := hideP hk
          have HS := hideP (show wd.cell? ⟨g, n, none⟩ = some (.slice none 0 0) ∧ wd.cell? ⟨wr.heap.size, 0, none⟩ = some (.int .i64 id) ∧ wd.cell? ⟨wr.heap.size, 1, none⟩ = some (.slice ar r.length capr) from ⟨hk, b0, b1⟩)
          go_wp2_with fail
          skip
          go_region_law (first | (refine step_append_own_at rfl _ _ 22 rfl w.heap.size 43 i0 (.agg #[.int .i64 0, .slice none 0 0]) 2 32 Try.underlying22 hi0 hz0 hz1 hz2 rfl (by decide) _ _ _ rfl HOL4.out.last.own ⟨w3.heap.size, 0, none⟩ 1 1 [.int .i64 id, .slice a3 r.length cap3] rfl rfl HC4.out (by intro u hu; simp at hu; rcases hu with rfl | rfl <;> rfl) (by unfold maxLen; omega) (by omega) HW4.out ?_; intro v5 w5 hown5 hgrow5 hat5; obtain ⟨g5, cap5, hv5⟩ := own_shape hown5; subst hv5; have HNEW := hideP (Ol.grow' (p := ((id, r), .slice a3 r.length cap3)) HN.out HOL4.out HW4.out HR4.out hown5 hgrow5 hat5 HGC4.out); have HG5 := hideP (lists_kept HOL4.out.last.own hgrow5 HGC4.out); have hS5 : w5.cell? ⟨g, n, none⟩ = some (.slice none 0 0) ∧ w5.cell? ⟨wr.heap.size, 0, none⟩ = some (.int .i64 id) ∧ w5.cell? ⟨wr.heap.size, 1, none⟩ = some (.slice ar r.length capr) := (by have hb5 := hgrow5.block _ (Array.getElem?_eq_some_iff.1 HB4.out).1 (fun e => absurd (HNB.out _ e.symm) (Nat.lt_irrefl _)); exact ⟨(World.cell?_of_block (HG5.out.trans HGC4.out.symm)).trans HS4.out.1, (World.cell?_of_block hb5).trans HS4.out.2.1, (World.cell?_of_block hb5).trans HS4.out.2.2⟩); have hk5 := hS5.1; have hz5 : w5.frozen? ⟨g, n, none⟩ = false := (Lib.frozen_of_heap HG5.out _); have HOS5 := hideP (Os.set (u := .slice (some ⟨g5, 0, none⟩) (([] : List Ev).length + 1) cap5) (o := n) (T := 22) (Os.grownT (T := 43) HOS4.out (by decide) (own_block HOL4.out.last.own) hgrow5) (by decide) HG5.out); have HF5 : Hid (Fr w (w5.setCell ⟨g, n, none⟩ (.slice (some ⟨g5, 0, none⟩) (([] : List Ev).length + 1) cap5))) := (Below.setCell (p := ⟨g, n, none⟩) (Below.grown HFW4.out hgrow5 HW4.out (fun k hk => (HOL4.out.last.own.lt k hk).1)) hgB _); have ht5 := HTC.out _ HOS5.out; have ht6 := HTC.out _ (Os.grownT (T := 43) HOS4.out (by decide) (own_block HOL4.out.last.own) hgrow5); have hne5 : g ≠ gt := (by obtain ⟨c6, h6⟩ := own_block (Os.grownT (T := 43) HOS4.out (by decide) (own_block HOL4.out.last.own) hgrow5).own gt rfl; exact ne_ty (T1 := 22) (T2 := 9) (by decide) HG5.out h6); have hne6 : gt ≠ g := hne5.symm; clear hown5 hgrow5 hat5 hS5) | (go_simp; go_wp2_with (go_at_call 37; refine (hcl _ (by first | exact Fr.refl _ | exact Fr.drew (Fr.refl _))).mono ?_; rintro _ w3 ⟨v3, rfl, f3, hr3⟩; have F3 : Hid (Fr wd w3) := (by first | exact f3 | exact Fr.trans (Fr.drew (Fr.refl _)) f3); obtain ⟨d0, d1, d2⟩ := s3_fr hgl hbl hbl F3.out HS.out; have HD0 := hideP d0; obtain ⟨a3, cap3, hv3, hr3b⟩ := hr3; subst hv3; have HR3 : Hid (IsRowB 0 w3 (.slice a3 r.length cap3) r) := (IsRowB.mono ⟨a3, cap3, rfl, hr3b⟩ (Nat.zero_le _)); have F4 : Hid (Fr wd (w3.alloc (.cells #[.int .i64 id, .slice a3 r.length cap3] 43))) := (Fr.alloc F3.out _); have HS4 := hideP (s3_fr hgl hbl hbl F4.out HS.out); obtain ⟨e0, e1, e2⟩ := s3_fr hgl hbl hbl F4.out HS.out; have HOL4 := hideP (Ol.fr HOL.out F4.out); have HGC4 := hideP ((F4.out.block g hgl).trans HGC.out); have HR4 := hideP (IsRowB.fr HR3.out ((Fr.refl w3).alloc (.cells #[.int .i64 id, .slice a3 r.length cap3] 43))); have HOS4 := hideP (Os.fr HOSW.out F4.out); have HC4 := hideP (cell_new2 w3 (.int .i64 id) (.slice a3 r.length cap3) 43 w3.heap.size rfl); have HB4 := hideP ((F4.out.block _ hbl).trans HBX.out); have HW4 : Hid (w.heap.size ≤ (w3.alloc (.cells #[.int .i64 id, .slice a3 r.length cap3] 43)).heap.size) := (Nat.le_trans (Fr.size HFW.out) (Fr.size F4.out)); have HFW4 := hideP (Fr.trans HFW.out F4.out); clear f3 hr3b)))
          all_goals
            go_wp2_with fail
            go_roundw
            case rel => exact ⟨i + 1, 244 - E.length, is.map (·.1) ++ [([] : List Ev) ++ [((id, r), .slice a3 r.length cap3)]], by go_num, HRM.out, by omega, by omega, HLE.out _, (fun h => by simp at h), HPP.out _, Or.inr ⟨is, _, _, rfl, HNEW.out⟩, HOS5.out, HFE.out _, HF5.out⟩
            case measure => simp [intOf]; omega
        · have hgt' : (S.size : Int) ≤ (room : Int) := by omega
          rw [if_neg hgt] at hfill
          obtain ⟨is, last, lv, hisE, hol0⟩ : ∃ is last lv, ps = is.map (·.1) ++ [last] ∧ Ol w.heap.size u6 is last lv wr := by
            rcases HO2R.out with ⟨_, e⟩ | h
            · exact absurd (hps e) (by omega)
            · exact h
          have hol : Ol w.heap.size u6 is last lv wb := hol0.fr (by rw [← HWB.out]; exact (Fr.refl wr).alloc _)
          have hnb0 : ∀ k, lv.ownBlock = some k → k < wr.heap.size := fun k hk => by
            obtain ⟨c2, h2⟩ := hol0.last.ty k hk
            exact (Array.getElem?_eq_some_iff.1 h2).1
          clear hol0
          have hpe : ps ≠ [] := fun e => by have := hps e; omega
          obtain ⟨aL, cL, rfl⟩ : ∃ aL cL, lv = .slice aL last.length cL := by
            rcases hol.last.own.2 with ⟨e, e0⟩ | ⟨g0, c0, _, e, _⟩
            · exact ⟨none, 0, by rw [e, e0]⟩
            · exact ⟨_, c0, e⟩
          have HNB0 := hideP hnb0
          clear hnb0
          have HOL := hideP hol
          have HOSW := HOSB
          have HFW := HFB
          have HBX := HBOX
          have hpl : ps.length ≤ 40 := by omega
          have hisl0 : is.length ≤ 40 := by rw [hisE, List.length_append, List.length_map] at hpl; omega
          have HNB : Hid (∀ k, (Value.slice aL last.length cL).ownBlock = some k → k < wr.heap.size) := HNB0.out
          have hll : last.length ≤ 40 := by have := HPL.out last (by rw [hisE]; simp); omega
          have HRM : Hid (Value.int .i64 ((room : Int) - (E.length : Int)) = .int .i64 ((room - E.length : Nat) : Int)) := by unfold Hid; congr 1; omega
          have HLE : Hid (∀ p : List Ev, (is.map (·.1) ++ [p]).length ≤ i + 1) := fun p => by have := congrArg List.length hisE; simp at this ⊢; omega
          have HPP : Hid (∀ (e : Ev) (q : List Ev), q ∈ is.map (·.1) ++ [last ++ [e]] → q.length ≤ i + 1) := fun e q hq => by
            rw [List.mem_append, List.mem_singleton] at hq
            rcases hq with hq | rfl
            · have := HPL.out q (by rw [hisE, List.mem_append]; exact Or.inl hq); omega
            · have := HPL.out last (by rw [hisE]; simp); simp; omega
          have HFE : Hid (∀ u : Value, LF.fill l = LF.fl (room - E.length) (mp (is.map (·.1) ++ [last ++ [((id, r), u)]])) (l.drop (i + 1))) := fun u => by
            rw [hfill, hisE]
            unfold mp
            rw [List.map_append, List.map_append, List.map_cons, List.map_nil, LF.addLast_snoc, List.map_cons, List.map_nil, List.map_append]
            rfl
          clear hol hisE hfill hpe hps
          obtain ⟨g, capl, cur, rfl, hgB, hgc, hk⟩ := Ol.cell HOL.out
          have HGC := hideP hgc
          have hbx : wb.heap[wr.heap.size]? = some (.cells #[.int .i64 id, .slice ar r.length capr] 43 (0, 0)) := HBX.out
          have b0 : wb.cell? ⟨wr.heap.size, 0, none⟩ = some (.int .i64 id) := by rw [Lib.cell_of_heap hbx]; rfl
          have b1 : wb.cell? ⟨wr.heap.size, 1, none⟩ = some (.slice ar r.length capr) := by rw [Lib.cell_of_heap hbx]; rfl
          have hz : wb.frozen? ⟨g, is.length, none⟩ = false := Lib.frozen_of_heap hgc _
          have hgl : g < wb.heap.size := (Array.getElem?_eq_some_iff.1 hgc).1
          have hbl : wr.heap.size < wb.heap.size := (Array.getElem?_eq_some_iff.1 hbx).1
          have HRW := hideP (IsRow.fr HROW.out HFW.out)
          have hcl : ∀ W2, Fr wb W2 → Calls Try.prog 37 #[.slice ar r.length capr] W2 fun e w' => ∃ v', e = .returned v' ∧ Fr W2 w' ∧ IsRowB W2.heap.size w' v' r := fun W2 f2 => clone_any _ r W2 (IsRow.fr HRW.out f2) (by omega)
          clear hgc hbx
          generalize hn : is.length = n at *
          have HN := hideP hn
          have hnI : (n : Int) ≤ 40 := by omega
          clear hn
          have F0 := hideP (Fr.refl wb)
          have HZ := hideP hz
          have HK := hideP hk
          have HS := hideP (show wb.cell? ⟨g, n, none⟩ = some (.slice aL last.length cL) ∧ wb.cell? ⟨wr.heap.size, 0, none⟩ = some (.int .i64 id) ∧ wb.cell? ⟨wr.heap.size, 1, none⟩ = some (.slice ar r.length capr) from ⟨hk, b0, b1⟩)
          go_wp2_with fail
          rw [HWB.out]
          go_region_law (first | (refine step_append_own_at rfl _ _ 22 rfl w.heap.size 43 i0 (.agg #[.int .i64 0, .slice none 0 0]) 2 32 Try.underlying22 hi0 hz0 hz1 hz2 rfl (by decide) _ _ _ rfl HOL4.out.last.own ⟨w3.heap.size, 0, none⟩ 1 1 [.int .i64 id, .slice a3 r.length cap3] rfl rfl HC4.out (by intro u hu; simp at hu; rcases hu with rfl | rfl <;> rfl) (by unfold maxLen; omega) (by omega) HW4.out ?_; intro v5 w5 hown5 hgrow5 hat5; obtain ⟨g5, cap5, hv5⟩ := own_shape hown5; subst hv5; have HNEW := hideP (Ol.grow' (p := ((id, r), .slice a3 r.length cap3)) HN.out HOL4.out HW4.out HR4.out hown5 hgrow5 hat5 HGC4.out); have HG5 := hideP (lists_kept HOL4.out.last.own hgrow5 HGC4.out); have hS5 : w5.cell? ⟨g, n, none⟩ = some (.slice aL last.length cL) ∧ w5.cell? ⟨wr.heap.size, 0, none⟩ = some (.int .i64 id) ∧ w5.cell? ⟨wr.heap.size, 1, none⟩ = some (.slice ar r.length capr) := (by have hb5 := hgrow5.block _ (Array.getElem?_eq_some_iff.1 HB4.out).1 (fun e => absurd (HNB.out _ e.symm) (Nat.lt_irrefl _)); exact ⟨(World.cell?_of_block (HG5.out.trans HGC4.out.symm)).trans HS4.out.1, (World.cell?_of_block hb5).trans HS4.out.2.1, (World.cell?_of_block hb5).trans HS4.out.2.2⟩); have hk5 := hS5.1; have hz5 : w5.frozen? ⟨g, n, none⟩ = false := (Lib.frozen_of_heap HG5.out _); have HOS5 := hideP (Os.set (u := .slice (some ⟨g5, 0, none⟩) (last.length + 1) cap5) (o := n) (T := 22) (Os.grownT (T := 43) HOS4.out (by decide) (own_block HOL4.out.last.own) hgrow5) (by decide) HG5.out); have HF5 : Hid (Fr w (w5.setCell ⟨g, n, none⟩ (.slice (some ⟨g5, 0, none⟩) (last.length + 1) cap5))) := (Below.setCell (p := ⟨g, n, none⟩) (Below.grown HFW4.out hgrow5 HW4.out (fun k hk => (HOL4.out.last.own.lt k hk).1)) hgB _); have ht5 := HTC.out _ HOS5.out; have ht6 := HTC.out _ (Os.grownT (T := 43) HOS4.out (by decide) (own_block HOL4.out.last.own) hgrow5); have hne5 : g ≠ gt := (by obtain ⟨c6, h6⟩ := own_block (Os.grownT (T := 43) HOS4.out (by decide) (own_block HOL4.out.last.own) hgrow5).own gt rfl; exact ne_ty (T1 := 22) (T2 := 9) (by decide) HG5.out h6); have hne6 : gt ≠ g := hne5.symm; clear hown5 hgrow5 hat5 hS5) | (go_simp; go_wp2_with (go_at_call 37; refine (hcl _ (by first | exact Fr.refl _ | exact Fr.drew (Fr.refl _))).mono ?_; rintro _ w3 ⟨v3, rfl, f3, hr3⟩; have F3 : Hid (Fr wb w3) := (by first | exact f3 | exact Fr.trans (Fr.drew (Fr.refl _)) f3); obtain ⟨d0, d1, d2⟩ := s3_fr hgl hbl hbl F3.out HS.out; have HD0 := hideP d0; obtain ⟨a3, cap3, hv3, hr3b⟩ := hr3; subst hv3; have HR3 : Hid (IsRowB 0 w3 (.slice a3 r.length cap3) r) := (IsRowB.mono ⟨a3, cap3, rfl, hr3b⟩ (Nat.zero_le _)); have F4 : Hid (Fr wb (w3.alloc (.cells #[.int .i64 id, .slice a3 r.length cap3] 43))) := (Fr.alloc F3.out _); have HS4 := hideP (s3_fr hgl hbl hbl F4.out HS.out); obtain ⟨e0, e1, e2⟩ := s3_fr hgl hbl hbl F4.out HS.out; have HOL4 := hideP (Ol.fr HOL.out F4.out); have HGC4 := hideP ((F4.out.block g hgl).trans HGC.out); have HR4 := hideP (IsRowB.fr HR3.out ((Fr.refl w3).alloc (.cells #[.int .i64 id, .slice a3 r.length cap3] 43))); have HOS4 := hideP (Os.fr HOSW.out F4.out); have HC4 := hideP (cell_new2 w3 (.int .i64 id) (.slice a3 r.length cap3) 43 w3.heap.size rfl); have HB4 := hideP ((F4.out.block _ hbl).trans HBX.out); have HW4 : Hid (w.heap.size ≤ (w3.alloc (.cells #[.int .i64 id, .slice a3 r.length cap3] 43)).heap.size) := (Nat.le_trans (Fr.size HFW.out) (Fr.size F4.out)); have HFW4 := hideP (Fr.trans HFW.out F4.out); clear f3 hr3b)))
          all_goals
            go_wp2_with fail
            go_roundw
            case rel => exact ⟨i + 1, room - E.length, is.map (·.1) ++ [last ++ [((id, r), .slice a3 r.length cap3)]], by go_num, HRM.out, by omega, by omega, HLE.out _, (fun h => by simp at h), HPP.out _, Or.inr ⟨is, _, _, rfl, HNEW.out⟩, HOS5.out, HFE.out _, HF5.out⟩
            case measure => simp [intOf]; omega
      · obtain rfl : i = l.length := by omega
        have hx : LF.fill l = mp ps := by rw [hfill, List.drop_of_length_le (Nat.le_refl _)]; rfl
        have HXX := hideP hx
        have HO2 := hideP hos2
        have HFR := hideP hfr
        clear hx hos2 hos hfill hfr hps
        go_wp2_with fail
        go_ret2
        refine ⟨?_, HFR.out⟩
        unfold FillAs
        rw [if_pos HX.out]
        exact ⟨_, ps, rfl, HO2.out, HXX.out.symm⟩
  · simp only [TextsAs, if_neg h0] at ht
    have HX := hideP h0
    generalize hcq : LF.chk l = c at *
    have HQ := hideP hcq
    have q1 : ((c : Int) != 0) = true := by simp; omega
    have q2 : ¬ ((c : Int) = 0) := by omega
    clear hb hcq
    go_enter Try.func17, Try.ntmps17
    go_wp2_with fail
    refine ht.mono ?_
    rintro _ w1 ⟨rfl, hf⟩
    clear ht
    go_wp2_with fail
    go_ret2
    refine ⟨?_, hf⟩
    unfold FillAs
    rw [HQ.out, if_neg HX.out]
    rfl
end Go.Proofs.Ythpcdhnaibpjnaa
