/-
  What Key of package record answers, for every row.
-/
import Derived.Test.YtbcfdhimngoplaaGreatDoorKApp
namespace Go.Proofs.YtbcfdhimngoplaaGreatDoor
open Go.ChangeShapes Go.WideShapes Go.ChangeAt Go.RowKit
set_option linter.unusedVariables false
set_option linter.unusedSimpArgs false
theorem kept_cell {w w' : World} {g j : Nat} {c : Array Value} {x : Value} (hk : Lib.OthersKept 5 none w w') (h : w.heap[g]? = some (.cells c 56 (0, 0))) (hj : c[j]? = some x) : w'.cell? ⟨g, j, none⟩ = some x := by
 rw [Lib.cell_of_heap (hk g _ h (by simp) (by intro c fz e; cases e))]
 exact hj
theorem snoc_own {w : World} {B : Nat} {v : Value} {m : List UInt8} {c : UInt8} (h : w.ownsRow B 5 1 v (m.length + 1) (byteV m ++ [.int .u8 (c.toNat : Int)])) : Ow B v (m ++ [c]) w := by
 unfold Ow
 rw [byteV_snoc, List.length_append]
 exact h
theorem kcell_alloc {W : World} {g j : Nat} {x : Value} (h : W.cell? ⟨g, j, none⟩ = some x) (o : Obj) : (W.alloc o).cell? ⟨g, j, none⟩ = some x := by
 have hb : g < W.heap.size := World.block_lt_of_cell? _ _ h
 exact (World.cell?_of_block (a := ⟨g, j, none⟩) (Below.heap_alloc W o g hb)).trans h
theorem kcell_grown {W W' : World} {B g j : Nat} {v x : Value} {m : List UInt8} (hown : Ow B v m W) (hg : W.grownBy W' v.ownBlock) {c : Array Value} (h : W.heap[g]? = some (.cells c 56 (0, 0))) (hj : c[j]? = some x) : W'.cell? ⟨g, j, none⟩ = some x :=
 kept_cell ((Lib.OthersKept.refl 5 none W).grown hg (ow_kind hown)) h hj
theorem kheap_grown {W W' : World} {B g : Nat} {v : Value} {m : List UInt8} (hown : Ow B v m W) (hg : W.grownBy W' v.ownBlock) {c : Array Value} (h : W.heap[g]? = some (.cells c 56 (0, 0))) : W'.heap[g]? = some (.cells c 56 (0, 0)) :=
 ((Lib.OthersKept.refl 5 none W).grown hg (ow_kind hown)) g _ h (by simp) (by intro c fz e; cases e)
theorem top_alloc {W : World} {g : Nat} {c : Array Value} (h : W.heap[g]? = some (.cells c 56 (0, 0))) (o : Obj) : (W.alloc o).heap[g]? = some (.cells c 56 (0, 0)) :=
 (Below.heap_alloc W o g (Array.getElem?_eq_some_iff.1 h).1).trans h
set_option maxRecDepth 100000 in
set_option maxHeartbeats 4000000 in
theorem recKey_ok (v : Value) (l : List VM.Vl) (w : World) (hr : IsRow w v l) (hw : Wide l) (hc : VM.chkRow l = 0) :
  Calls Tryz.prog 65 #[v] w fun e w' => e = .returned (.tuple #[.string ⟨(KM.row l).toArray⟩, .int .i64 0]) ∧ Fr w w' := by
 obtain ⟨h8, hall⟩ := WM.chkRow_ok hc
 have hck := checkRow_any v l w hr (by omega)
 rw [hc] at hck
 obtain ⟨a, cap, rfl, hcs⟩ := hr
 obtain ⟨i0, hi0, hz0, hz1, hz2⟩ := info_parts Tryz.infoByte
 have HC : Hid _ := hcs
 clear hcs hc
 go_enter Tryz.func65, Tryz.ntmps65
 go_wp2_with (go_at_call 86; refine hck.mono ?_)
 rintro e w1 ⟨rfl, hf⟩
 have HF : Hid _ := hf
 have hsz := hf.size
 clear hck hf
 go_wp2_with fail
 generalize hB : w1.heap.size = B at *
 go_loopw [5, 15] (fun kv iv wr => ∃ (i : Nat) (m : List UInt8), iv = .int .i64 i ∧ i ≤ l.length ∧ m ++ (l.drop i).flatMap KM.kb = KM.row l ∧ m.length ≤ 35 * i ∧ Ow B kv m wr ∧ Below B w1 wr) (fun _ iv _ => l.length - (intOf iv).toNat)
 case atStart => exact ⟨0, [], rfl, Nat.zero_le _, rfl, by simp, World.ownsRow_nil _ _ _ _, Below.refl _ _⟩
 case round =>
  obtain ⟨i, m, rfl, hi, hm, hml, hown, hbe⟩ := hrel
  by_cases hlt : i < l.length
  ·
   obtain ⟨b, o, rfl, hb, hc⟩ : ∃ b o, a = some ⟨b, o, none⟩ ∧ b < w.heap.size ∧ CellsAt w b o l := by
    rcases HC.out with h | h
    · subst h; simp at hlt
    · exact h
   have hfr : Fr w wr := Below.trans HF.out (Below.mono hbe hsz)
   obtain ⟨c0, c1, c2⟩ := (hc.fr hb hfr) i hlt
   have hchk := hall l[i] (List.getElem_mem hlt)
   have hwid := hw l[i] (List.getElem_mem hlt)
   have hcp := WM.chk_ok hchk
   have hkl := KM.kb_len (x := l[i]) hcp.2.2.2.2
   have hdr : m ++ (l.drop i).flatMap KM.kb = (m ++ KM.kb l[i]) ++ (l.drop (i + 1)).flatMap KM.kb := by
    rw [List.drop_eq_getElem_cons hlt, List.flatMap_cons, List.append_assoc]
   rw [hdr] at hm
   generalize hx : l[i] = x at c0 c1 c2 hchk hwid hcp hm hkl
   obtain ⟨k, n, s⟩ := x
   simp only at c0 c1 c2 hwid hcp
   have HX : Hid _ := hx
   have HM : Hid _ := hm
   have HKL : Hid _ := hkl
   clear hx hdr hc hm hfr hchk hkl
   obtain ⟨k0, k3, kn, ks, s16⟩ := hcp
   have hge : B ≤ wr.heap.size := by have := hbe.size; omega
   have HV : Hid _ := alloc_top wr (.cells #[.int .i64 k, .int .i64 n, .string s] 56)
   have hk : k = 0 ∨ k = 1 ∨ k = 2 ∨ k = 3 := by omega
   have how2 : Ow B u5 m (wr.alloc (.cells #[.int .i64 k, .int .i64 n, .string s] 56)) := Ow.keep hown (fun q h1 h2 => Below.heap_alloc _ _ _ h2)
   have hbe2 : Below B w1 (wr.alloc (.cells #[.int .i64 k, .int .i64 n, .string s] 56)) := hbe.alloc hge _
   have hge2 : B ≤ (wr.alloc (.cells #[.int .i64 k, .int .i64 n, .string s] 56)).heap.size := by simp; omega
   rcases hk with rfl | rfl | rfl | rfl
   ·
    clear k0 k3 kn ks
    have HBE : Hid _ := hbe2
    clear hown hbe hbe2
    go_wp2_with (at_builtin; refine wpList_append_own _ rfl _ _ 128 rfl B 5 i0 (.int .u8 0) 1 1 Tryz.underlying128 hi0 hz0 hz1 hz2 rfl (by decide) _ _ _ rfl (how2.alloc _) ⟨(wr.alloc (.cells #[.int .i64 0, .int .i64 n, .string s] 56)).heap.size, 0, none⟩ 1 1 [.int .u8 5] ?c0 rfl ?c1 ?c2 ?c3 ?c4 ?c5 ?_)
    case c0 => simp [Act.eval, Act.put]
    case c1 => exact cell_one_new _ _ _
    case c2 => intro u hu; simp at hu; subst hu; rfl
    case c3 => unfold maxLen; omega
    case c4 => omega
    case c5 => simp; omega
    intro v' w2 hown' hgrow _
    have HO : Hid (Ow B v' (m ++ [5]) w2) := snoc_own hown'
    have HBE2 : Hid _ := (Below.alloc HBE.out hge2 _).grown hgrow (by simp; omega) (fun k hk => (how2.lt k hk).1)
    clear hown' hgrow how2
    go_wp2_with fail
    go_roundw
    case rel =>
     refine ⟨i + 1, _, by go_num, by omega, ?_, by simp; omega, HO.out, HBE2.out⟩
     have := HM.out
     rw [show KM.kb ⟨0, n, s⟩ = [5] from rfl] at this
     exact this
    case measure => simp [intOf]; omega
   ·
    clear k0 k3 kn ks
    go_wp2_with fail
    generalize wr.alloc (.cells #[.int .i64 1, .int .i64 n, .string s] 56) = W at *
    generalize wr.heap.size = g at *
    have hv1 : W.cell? ⟨g, 1, none⟩ = some (.int .i64 n) := by rw [Lib.cell_of_heap HV.out]; rfl
    have how3 : Ow B u5 m W.drew := how2
    have hv3 : W.drew.heap[g]? = some (.cells #[.int .i64 1, .int .i64 n, .string s] 56 (0, 0)) := HV.out
    have HV3 : Hid _ := hv3
    have HBE3 : Hid (Below B w1 W.drew) := hbe2.drew
    clear hown hbe hbe2 c0 c1 c2 hv3 how2
    go_region_held3 (fun W' => W'.cell? ⟨g, 1, none⟩ = some (.int .i64 n)) (first | assumption | exact kcell_alloc (by assumption) _) (first
     | (refine step_append_own rfl _ _ 128 rfl B 5 i0 (.int .u8 0) 1 1 Tryz.underlying128 hi0 hz0 hz1 hz2 rfl (by decide) _ _ _ rfl (how3.alloc _) ⟨W.heap.size, 0, none⟩ 1 1 [.int .u8 16] rfl rfl (cell_one_new _ _ _) (by intro u hu; simp at hu; subst hu; rfl) (by unfold maxLen; omega) (by omega) (by simp; omega) ?_; intro v' w2 hown' hgrow; have hk2 : w2.cell? ⟨g, 1, none⟩ = some (.int .i64 n) := kcell_grown (how3.alloc _) hgrow (top_alloc HV3.out _) rfl; have HH2 : Hid _ := kheap_grown (how3.alloc _) hgrow (top_alloc HV3.out _); have ho2 : Ow B v' (m ++ [16]) w2 := snoc_own hown'; have hbe4 : Below B w1 w2 := (Below.alloc HBE3.out hge2 _).grown hgrow (by simp; omega) (fun k hk => (how3.lt k hk).1); have hge4 : B ≤ w2.heap.size := Nat.le_trans (by omega) hbe4.size; have HBE4 : Hid _ := hbe4; clear hgrow hown' hbe4)
     | (go_at_call 87; refine (appendInt_any B v' (m ++ [16]) n _ ho2 hwid.1 hwid.2 (by simp only [List.length_append, List.length_cons, List.length_nil]; omega) hge4).mono ?_; rintro e w3 ⟨v3, rfl, ho3, hbe3, hok3⟩; have hk3 : w3.cell? ⟨g, 1, none⟩ = some (.int .i64 n) := kept_cell hok3 HH2.out rfl))
    all_goals
     have HO : Hid _ := ho3
     have HBE5 : Hid _ := Below.trans HBE4.out hbe3
     clear ho3 hbe3 hok3
     go_wp2_with fail
     go_roundw
     case rel =>
      refine ⟨i + 1, _, by go_num, by omega, ?_, ?_, HO.out, HBE5.out⟩
      ·
       have := HM.out
       rw [show KM.kb ⟨1, n, s⟩ = [16] ++ KM.be 8 (KM.turn n) from rfl, ← List.append_assoc] at this
       rw [← this]
      ·
       have := HKL.out
       rw [show KM.kb ⟨1, n, s⟩ = [16] ++ KM.be 8 (KM.turn n) from rfl] at this
       simp only [List.length_append, List.length_cons, List.length_nil] at this ⊢
       omega
     case measure => simp [intOf]; omega
   ·
    clear k0 k3 kn ks
    go_wp2_with fail
    generalize wr.alloc (.cells #[.int .i64 2, .int .i64 n, .string s] 56) = W at *
    generalize wr.heap.size = g at *
    have hv1 : W.cell? ⟨g, 2, none⟩ = some (.string s) := by rw [Lib.cell_of_heap HV.out]; rfl
    have how3 : Ow B u5 m W.drew := how2
    have hv3 : W.drew.heap[g]? = some (.cells #[.int .i64 2, .int .i64 n, .string s] 56 (0, 0)) := HV.out
    have HV3 : Hid _ := hv3
    have HBE3 : Hid (Below B w1 W.drew) := hbe2.drew
    clear hown hbe hbe2 c0 c1 c2 hv3 how2
    go_region_held3 (fun W' => W'.cell? ⟨g, 2, none⟩ = some (.string s)) (first | assumption | exact kcell_alloc (by assumption) _) (first
     | (refine step_append_own rfl _ _ 128 rfl B 5 i0 (.int .u8 0) 1 1 Tryz.underlying128 hi0 hz0 hz1 hz2 rfl (by decide) _ _ _ rfl (how3.alloc _) ⟨W.heap.size, 0, none⟩ 1 1 [.int .u8 32] rfl rfl (cell_one_new _ _ _) (by intro u hu; simp at hu; subst hu; rfl) (by unfold maxLen; omega) (by omega) (by simp; omega) ?_; intro v' w2 hown' hgrow; have hk2 : w2.cell? ⟨g, 2, none⟩ = some (.string s) := kcell_grown (how3.alloc _) hgrow (top_alloc HV3.out _) rfl; have HH2 : Hid _ := kheap_grown (how3.alloc _) hgrow (top_alloc HV3.out _); have ho2 : Ow B v' (m ++ [32]) w2 := snoc_own hown'; have hbe4 : Below B w1 w2 := (Below.alloc HBE3.out hge2 _).grown hgrow (by simp; omega) (fun k hk => (how3.lt k hk).1); have hge4 : B ≤ w2.heap.size := Nat.le_trans (by omega) hbe4.size; have HBE4 : Hid _ := hbe4; clear hgrow hown' hbe4)
     | (go_at_call 88; refine (appendText_any B v' (m ++ [32]) s _ ho2 s16 (by simp only [List.length_append, List.length_cons, List.length_nil]; omega) hge4).mono ?_; rintro e w3 ⟨v3, rfl, ho3, hbe3, hok3⟩; have hk3 : w3.cell? ⟨g, 2, none⟩ = some (.string s) := kept_cell hok3 HH2.out rfl))
    all_goals
     have HO : Hid _ := ho3
     have HBE5 : Hid _ := Below.trans HBE4.out hbe3
     clear ho3 hbe3 hok3
     go_wp2_with fail
     go_roundw
     case rel =>
      refine ⟨i + 1, _, by go_num, by omega, ?_, ?_, HO.out, HBE5.out⟩
      ·
       have := HM.out
       rw [show KM.kb ⟨2, n, s⟩ = [32] ++ KM.esc s.data.toList from rfl, ← List.append_assoc] at this
       rw [← this]
      ·
       have := HKL.out
       rw [show KM.kb ⟨2, n, s⟩ = [32] ++ KM.esc s.data.toList from rfl] at this
       simp only [List.length_append, List.length_cons, List.length_nil] at this ⊢
       omega
     case measure => simp [intOf]; omega
   ·
    clear k0 k3 kn ks
    go_wp2_with fail
    generalize wr.alloc (.cells #[.int .i64 3, .int .i64 n, .string s] 56) = W at *
    generalize wr.heap.size = g at *
    have hv1 : W.cell? ⟨g, 2, none⟩ = some (.string s) := by rw [Lib.cell_of_heap HV.out]; rfl
    have how3 : Ow B u5 m W.drew := how2
    have hv3 : W.drew.heap[g]? = some (.cells #[.int .i64 3, .int .i64 n, .string s] 56 (0, 0)) := HV.out
    have HV3 : Hid _ := hv3
    have HBE3 : Hid (Below B w1 W.drew) := hbe2.drew
    clear hown hbe hbe2 c0 c1 c2 hv3 how2
    go_region_held3 (fun W' => W'.cell? ⟨g, 2, none⟩ = some (.string s)) (first | assumption | exact kcell_alloc (by assumption) _) (first
     | (refine step_append_own rfl _ _ 128 rfl B 5 i0 (.int .u8 0) 1 1 Tryz.underlying128 hi0 hz0 hz1 hz2 rfl (by decide) _ _ _ rfl (how3.alloc _) ⟨W.heap.size, 0, none⟩ 1 1 [.int .u8 48] rfl rfl (cell_one_new _ _ _) (by intro u hu; simp at hu; subst hu; rfl) (by unfold maxLen; omega) (by omega) (by simp; omega) ?_; intro v' w2 hown' hgrow; have hk2 : w2.cell? ⟨g, 2, none⟩ = some (.string s) := kcell_grown (how3.alloc _) hgrow (top_alloc HV3.out _) rfl; have HH2 : Hid _ := kheap_grown (how3.alloc _) hgrow (top_alloc HV3.out _); have ho2 : Ow B v' (m ++ [48]) w2 := snoc_own hown'; have hbe4 : Below B w1 w2 := (Below.alloc HBE3.out hge2 _).grown hgrow (by simp; omega) (fun k hk => (how3.lt k hk).1); have hge4 : B ≤ w2.heap.size := Nat.le_trans (by omega) hbe4.size; have HBE4 : Hid _ := hbe4; clear hgrow hown' hbe4)
     | (go_at_call 88; refine (appendText_any B v' (m ++ [48]) s _ ho2 s16 (by simp only [List.length_append, List.length_cons, List.length_nil]; omega) hge4).mono ?_; rintro e w3 ⟨v3, rfl, ho3, hbe3, hok3⟩; have hk3 : w3.cell? ⟨g, 2, none⟩ = some (.string s) := kept_cell hok3 HH2.out rfl))
    all_goals
     have HO : Hid _ := ho3
     have HBE5 : Hid _ := Below.trans HBE4.out hbe3
     clear ho3 hbe3 hok3
     go_wp2_with fail
     go_roundw
     case rel =>
      refine ⟨i + 1, _, by go_num, by omega, ?_, ?_, HO.out, HBE5.out⟩
      ·
       have := HM.out
       rw [show KM.kb ⟨3, n, s⟩ = [48] ++ KM.esc s.data.toList from rfl, ← List.append_assoc] at this
       rw [← this]
      ·
       have := HKL.out
       rw [show KM.kb ⟨3, n, s⟩ = [48] ++ KM.esc s.data.toList from rfl] at this
       simp only [List.length_append, List.length_cons, List.length_nil] at this ⊢
       omega
     case measure => simp [intOf]; omega
  ·
   obtain rfl : i = l.length := by omega
   rw [List.drop_length, List.flatMap_nil, List.append_nil] at hm
   subst hm
   have hcv := conv_owned' hown
   have HBE : Hid _ := Below.trans HF.out (Below.mono hbe hsz)
   clear hown hbe
   go_wp2_with fail
   go_ret2
   exact ⟨rfl, HBE.out⟩
end Go.Proofs.YtbcfdhimngoplaaGreatDoor
