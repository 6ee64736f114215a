/-
  What the document's ToldOf answers.
-/
import Derived.Test.YtbcfdhimngoplaaGreatDoorBpU
import Derived.Test.YtbcfdhimngoplaaGreatDoorRefTot
namespace Go.Proofs.YtbcfdhimngoplaaGreatDoor
open Go.ChangeShapes Go.WideShapes Go.ChangeAt Go.RowKit
set_option linter.unusedVariables false
set_option linter.unusedSimpArgs false
set_option maxRecDepth 100000
set_option maxHeartbeats 2000000
namespace BG
open VM
theorem cb3 : ∀ l m : List UInt8, Lib.compareBytes l m = -1 ∨ Lib.compareBytes l m = 0 ∨ Lib.compareBytes l m = 1
 | [], [] => by simp [Lib.compareBytes]
 | [], _ :: _ => by simp [Lib.compareBytes]
 | _ :: _, [] => by simp [Lib.compareBytes]
 | a :: l, b :: m => by
  rw [Lib.compareBytes]
  split
  · exact .inl rfl
  ·
   split
   · exact .inr (.inr rfl)
   · exact cb3 l m
theorem ci3 (a b : Int) : CM.ci a b = -1 ∨ CM.ci a b = 0 ∨ CM.ci a b = 1 := by
 unfold CM.ci; repeat' split
 all_goals omega
theorem or33 {a b c : Int} (h1 : a = -1 ∨ a = 0 ∨ a = 1) (h2 : b = -1 ∨ b = 0 ∨ b = 1) (h3 : c = -1 ∨ c = 0 ∨ c = 1) : CM.or3 a b c = -1 ∨ CM.or3 a b c = 0 ∨ CM.or3 a b c = 1 := by
 unfold CM.or3; split
 · exact h1
 ·
  split
  · exact h2
  · exact h3
theorem cmp_of {a b : Vl} (ha : VM.chk a = 0) (hb : VM.chk b = 0) : CM.cmp a b = CM.ord a b ∧ (CM.ord a b = -1 ∨ CM.ord a b = 0 ∨ CM.ord a b = 1) := by
 refine ⟨if_pos (by simp [chkAll, ha, hb]), ?_⟩
 unfold CM.ord
 exact or33 (ci3 _ _) (ci3 _ _) (cb3 _ _)
def fO (s : Int) (V : List Vl) : Vl := far s (V.headD nulV) V
theorem far_snoc (s : Int) (x v : Vl) (l : List Vl) : far s x (l ++ [v]) = if CM.cmp v (far s x l) = s then v else far s x l := by
 unfold far
 rw [List.foldl_append]
 rfl
theorem far_mem (s : Int) : ∀ (l : List Vl) (x : Vl), far s x l = x ∨ far s x l ∈ l
 | [], x => .inl rfl
 | v :: t, x => by
  show far s (if CM.cmp v x = s then v else x) t = x ∨ _
  rcases far_mem s t (if CM.cmp v x = s then v else x) with h | h
  ·
   split at h
   ·
    rename_i e
    right
    show far s (if CM.cmp v x = s then v else x) t ∈ v :: t
    rw [if_pos e, h]
    simp
   ·
    rename_i e
    left
    rw [if_neg e, h]
  ·
   right
   exact List.mem_cons_of_mem _ h
theorem fO_one (s : Int) (v : Vl) : fO s [v] = v := by simp [fO, far]
theorem fO_next (s : Int) {V : List Vl} (h : V ≠ []) (v : Vl) : fO s (V ++ [v]) = if CM.cmp v (fO s V) = s then v else fO s V := by
 unfold fO
 rw [far_snoc]
 cases V with
 | nil => exact absurd rfl h
 | cons a t => rfl
theorem fO_in (s : Int) {V : List Vl} (h : V ≠ []) : fO s V ∈ V := by
 cases V with
 | nil => exact absurd rfl h
 | cons a t =>
  rcases far_mem s (a :: t) a with h | h
  ·
   show far s a (a :: t) ∈ _
   rw [h]
   simp
  · exact h
theorem vls_k {ls : List (List Vl)} {C : Nat} {x : Vl} (h : x ∈ vls ls C) : x.k ≠ 0 := by
 unfold vls at h
 rw [List.mem_filter] at h
 simpa using h.2
theorem vls_of {ls : List (List Vl)} {C : Nat} {r : List Vl} (hr : r ∈ ls) (h : (r.getD C nulV).k ≠ 0) : r.getD C nulV ∈ vls ls C := by
 unfold vls
 rw [List.mem_filter]
 exact ⟨List.mem_map.2 ⟨r, hr, rfl⟩, by simpa using h⟩
theorem vls_take {ls : List (List Vl)} {C i : Nat} {x : Vl} (h : x ∈ vls (ls.take i) C) : x ∈ vls ls C := by
 unfold vls at *
 rw [List.mem_filter] at *
 refine ⟨?_, h.2⟩
 obtain ⟨r, hr, e⟩ := List.mem_map.1 h.1
 exact List.mem_map.2 ⟨r, List.mem_of_mem_take hr, e⟩
end BG
theorem head_in {V : List VM.Vl} (h : V ≠ []) : V.headD BG.nulV ∈ V := by
 cases V with
 | nil => exact absurd rfl h
 | cons a t => simp
theorem Blk.oput3 {w : World} {b c : Nat} {arr : Array Value} {T : TypeId} (h : Blk w c arr T) (hne : b ≠ c) (x y z : Value) : Blk (Go.Proofs.YtbcfdhimngoplaaGreatDoor.put3 w b x y z) c arr T := ((h.other hne 0 x).other hne 1 y).other hne 2 z
theorem own_put3 {B n sz b : Nat} {T T' : TypeId} {v : Value} {xs : List Value} {arr : Array Value} {w : World} (h : w.ownsRow B T sz v n xs) (hb : Blk w b arr T') (hT : T' ≠ T) (x y z : Value) : (put3 w b x y z).ownsRow B T sz v n xs := own_keep h fun k cur _ hk => by
 have hne : k ≠ b := by
  rintro rfl
  unfold Blk at hb
  rw [hk] at hb
  injection hb with hb
  injection hb with _ hb _
  exact hT hb.symm
 unfold put3
 rw [Below.heap_setCell _ _ _ _ hne, Below.heap_setCell _ _ _ _ hne, Below.heap_setCell _ _ _ _ hne]
theorem Blk.gro {w w' : World} {B n sz b : Nat} {T T' : TypeId} {v : Value} {xs : List Value} {arr : Array Value} (h : Blk w b arr T) (ho : w.ownsRow B T' sz v n xs) (hT : T ≠ T') (g : w.grownBy w' v.ownBlock) : Blk w' b arr T := h.grown g fun e => by
 obtain ⟨cur, hcur⟩ := own_block ho _ e
 unfold Blk at h
 rw [h] at hcur
 simp only [Option.some.injEq, Obj.cells.injEq] at hcur
 exact hT hcur.2.1
def vA (x : VM.Vl) : Array Value := #[.int .i64 x.k, .int .i64 x.n, .string x.s]
theorem c5_after {w w' : World} {a b c d e : Addr} {u v x y z : Value} (fr : Fr w w') (h : w.cell? a = some u ∧ w.cell? b = some v ∧ w.cell? c = some x ∧ w.cell? d = some y ∧ w.cell? e = some z) : w'.cell? a = some u ∧ w'.cell? b = some v ∧ w'.cell? c = some x ∧ w'.cell? d = some y ∧ w'.cell? e = some z := by
 obtain ⟨h1, h2, h3, h4, h5⟩ := h
 exact ⟨(Below.cell fr (World.block_lt_of_cell? _ _ h1)).trans h1, (Below.cell fr (World.block_lt_of_cell? _ _ h2)).trans h2, (Below.cell fr (World.block_lt_of_cell? _ _ h3)).trans h3, (Below.cell fr (World.block_lt_of_cell? _ _ h4)).trans h4, (Below.cell fr (World.block_lt_of_cell? _ _ h5)).trans h5⟩
theorem toldOf_1 (v : Value) (ls : List (List VM.Vl)) (C : Nat) (w : World) (hr : IsRR w v ls) (hin : ∀ r ∈ ls, C < r.length) (hch : ∀ r ∈ ls, ∀ x ∈ r, VM.chk x = 0) (hok : ∀ r ∈ ls, ∀ x ∈ r, WH.Ok x.n) (hsz : ∀ r ∈ ls, ∀ x ∈ r, x.s.size ≤ maxLen) (hl : ls.length ≤ 40) :
  Calls Tryz.prog 57 #[v, .agg #[.int .i64 1, .int .i64 (C : Int)]] w fun e w' => e = .returned (exV (BG.tel ls ⟨1, (C : Int)⟩)) ∧ Fr w w' := by
 have HK : Hid (BG.tel ls ⟨1, (C : Int)⟩ = .ok ⟨1, ((BG.vls ls C).length : Int), ⟨#[]⟩⟩) := by
  unfold Hid BG.tel
  rw [if_neg (by simp <;> omega)]
  simp only [Int.toNat_natCast]
  rfl
 obtain ⟨i0, hi0, hz0, hz1, hz2⟩ := info_parts Tryz.infoI64
 have HVm := hideP (fun (i : Nat) x (hx : x ∈ BG.vls (ls.take i) C) => BG.vls_mem (BG.vls_take hx) hin)
 have HIn := hideP hin
 have HCh := hideP hch
 have HOk := hideP hok
 have HSz := hideP hsz
 obtain ⟨a, c, rfl⟩ := hr.slice
 obtain ⟨qs, hq, _, hc, hcell, hrow⟩ := hr.at
 have HCe := hideP hcell
 have HRo := hideP hrow
 clear hcell hrow hr hin hch hok hsz hc
 generalize BG.tel ls ⟨1, (C : Int)⟩ = R at *
 have HG3 := hideP (Blk.new w #[.int .i64 1, .int .i64 (C : Int)] 66)
 have HG4 := hideP (Blk.new (w.alloc (.cells #[.int .i64 1, .int .i64 (C : Int)] 66)) #[.int .i64 0, .int .i64 0, .string ⟨#[]⟩] 56)
 have HG3b := hideP (HG3.out.old (.cells #[.int .i64 0, .int .i64 0, .string ⟨#[]⟩] 56))
 have F2 := hideP (((Fr.refl w).alloc (.cells #[.int .i64 1, .int .i64 (C : Int)] 66)).alloc (.cells #[.int .i64 0, .int .i64 0, .string ⟨#[]⟩] 56))
 simp only [World.size_alloc] at HG4
 obtain ⟨W2, hW2⟩ : ∃ x, (w.alloc (.cells #[.int .i64 1, .int .i64 (C : Int)] 66)).alloc (.cells #[.int .i64 0, .int .i64 0, .string ⟨#[]⟩] 56) = x := ⟨_, rfl⟩
 have hs2 : W2.heap.size = w.heap.size + 1 + 1 := by rw [← hW2]; simp
 rw [hW2] at HG3b HG4 F2
 have a0 : W2.cell? ⟨w.heap.size, 0, none⟩ = some (.int .i64 1) := HG3b.out.cell 0 rfl
 have a1 : W2.cell? ⟨w.heap.size, 1, none⟩ = some (.int .i64 (C : Int)) := HG3b.out.cell 1 rfl
 have H3a := hideP (HG3b.out.old (.cells #[.int .i64 0, .int .i64 0, .string ⟨#[]⟩] 56))
 have H4a := hideP (HG4.out.old (.cells #[.int .i64 0, .int .i64 0, .string ⟨#[]⟩] 56))
 have H7a := hideP (Blk.new W2 #[.int .i64 0, .int .i64 0, .string ⟨#[]⟩] 56)
 rw [hs2] at H7a
 have F3 := hideP (F2.out.alloc (.cells #[.int .i64 0, .int .i64 0, .string ⟨#[]⟩] 56))
 go_enter Tryz.func57, Tryz.ntmps57
 go_wp2_with fail
 clear a0 a1
 go_loopw [6, 8, 9, 10] (fun mv iv kv _ wr => ∃ i : Nat, kv = .int .i64 i ∧ i ≤ ls.length ∧ mv = .int .i64 ((BG.vls (ls.take i) C).length : Int) ∧ wr.ownsRow w.heap.size 2 1 iv (BG.vls (ls.take i) C).length (flat cdZ ((BG.vls (ls.take i) C).map (·.n))) ∧ Blk wr w.heap.size #[.int .i64 1, .int .i64 (C : Int)] 66 ∧ Blk wr (w.heap.size + 1) #[.int .i64 0, .int .i64 0, .string ⟨#[]⟩] 56 ∧ Blk wr (w.heap.size + 1 + 1) (vA ((BG.vls (ls.take i) C).headD BG.nulV)) 56 ∧ Fr w wr) (fun _ _ kv _ _ => ls.length - (intOf kv).toNat)
 case atStart => exact ⟨0, rfl, Nat.zero_le _, rfl, World.ownsRow_nil _ _ _ _, H3a.out, H4a.out, H7a.out, F3.out⟩
 case round =>
  clear H3a H4a H7a F3 HG3b HG4 F2 hW2 hs2
  obtain ⟨i, rfl, hi, rfl, hown, h3, h4, h7, hfr⟩ := hrel
  obtain ⟨fa, fc, rfl⟩ := own_slice hown
  have hvl := BG.vls_len ls C i
  have hsz := hfr.size
  have hVm : ∀ y ∈ BG.vls (ls.take i) C, y.k ≠ 0 ∧ VM.chk y = 0 ∧ y.s.size ≤ maxLen := fun y hy => by
   obtain ⟨r, hr, hx⟩ := HVm.out i y hy
   exact ⟨BG.vls_k hy, HCh.out r hr y hx, HSz.out r hr y hx⟩
  have hVk : ∀ y ∈ BG.vls (ls.take i) C, WH.Ok y.n := fun y hy => by
   obtain ⟨r, hr, hx⟩ := HVm.out i y hy
   exact HOk.out r hr y hx
  by_cases hlt : i < ls.length
  ·
   have hlt' : (i : Int) < (ls.length : Int) := by omega
   have hi40 : i < 40 := by omega
   obtain ⟨b, o, rfl, hbb, c0⟩ := HCe.out i (by omega)
   obtain ⟨h1, h2⟩ := HRo.out i (by omega) hlt
   have hst := BG.vls_step ls C i hlt
   have hCr := HIn.out ls[i] (List.getElem_mem hlt)
   have hlm : ls[i] ∈ ls := List.getElem_mem hlt
   have hvo := BG.vls_of (C := C) hlm
   generalize ls[i] = r at *
   obtain ⟨q, hqq⟩ : ∃ q, (qs[i]'(by omega)) = q := ⟨_, rfl⟩
   rw [hqq] at h1 h2 c0
   obtain ⟨qa, qn, qc⟩ := q
   simp only [Sq.v] at h1 h2 c0
   obtain ⟨ra, rc, er, _, hrs⟩ := h1
   simp only [Value.slice.injEq] at er
   obtain ⟨rfl, rfl, rfl⟩ := er
   obtain ⟨rb, ro, rfl, hrb, hrat⟩ : ∃ b o, qa = some ⟨b, o, none⟩ ∧ b < w.heap.size ∧ At cdV w b o r := by
    rcases hrs with h | h
    · rw [h] at hCr; simp at hCr
    · exact h
   obtain ⟨d0, d1, d2⟩ := (hrat.fr hrb hfr).v3 C hCr
   have c0' := (Below.cell hfr (World.block_lt_of_cell? _ _ c0)).trans c0
   have hgd : r.getD C BG.nulV = r[C] := by rw [List.getD_eq_getElem?_getD, List.getElem?_eq_getElem hCr]; rfl
   rw [hgd] at hst hvo
   have hxm : r[C] ∈ r := List.getElem_mem hCr
   have hxs := HSz.out r hlm _ hxm
   have hxc := HCh.out r hlm _ hxm
   generalize r[C] = x at *
   obtain ⟨xk, xn, xs⟩ := x
   simp only at d0 d1 d2 hst hvo hxs
   have hC' : (C : Int) < (r.length : Int) := by omega
   have e1 := h3.cell 1 rfl
   have HS := hideP (show wr.cell? ⟨b, o + i, none⟩ = some (.slice (some ⟨rb, ro, none⟩) r.length qc) ∧ wr.cell? ⟨w.heap.size, 1, none⟩ = some (.int .i64 (C : Int)) ∧ wr.cell? ⟨rb, ro + C * 3, none⟩ = some (.int .i64 xk) ∧ wr.cell? ⟨rb, ro + C * 3 + 1, none⟩ = some (.int .i64 xn) ∧ wr.cell? ⟨rb, ro + C * 3 + 2, none⟩ = some (.string xs) from ⟨c0', e1, d0, d1, d2⟩)
   have hz := Fr.drew (Fr.refl wr)
   have hrl : r.length = r.length := rfl
   generalize hrn : r.length = rn at *
   generalize BG.vls (ls.take i) C = V at *
   clear c0' e1 d0 d1 d2 c0 hrat hrs hqq hgd
   go_upto_region 9 with fail
   go_region_held3 (fun W => W.cell? ⟨b, o + i, none⟩ = some (.slice (some ⟨rb, ro, none⟩) rn qc) ∧ W.cell? ⟨w.heap.size, 1, none⟩ = some (.int .i64 (C : Int)) ∧ W.cell? ⟨rb, ro + C * 3, none⟩ = some (.int .i64 xk) ∧ W.cell? ⟨rb, ro + C * 3 + 1, none⟩ = some (.int .i64 xn) ∧ W.cell? ⟨rb, ro + C * 3 + 2, none⟩ = some (.string xs)) (first | exact HS.out | exact c5_after hz HS.out | exact c5_after (hz.alloc _) HS.out | exact c5_after ((hz.alloc _).put3 _ (Nat.le_refl _) _ _ _) HS.out) (first | fail)
   all_goals (
    obtain ⟨W9, hW9⟩ : ∃ W9, (wr.alloc (.cells #[.int .i64 xk, .int .i64 xn, .string xs] 56)).drew = W9 := ⟨_, rfl⟩
    have F9 : Fr wr W9 := by rw [← hW9]; exact Fr.drew ((Fr.refl _).alloc _)
    have hX : Blk W9 wr.heap.size (vA ⟨xk, xn, xs⟩) 56 := by rw [← hW9]; exact (Blk.new wr _ _).fr (Fr.drew (Fr.refl _))
    rw [hW9]
    clear hW9 hz HS
    have H3 := hideP (h3.fr F9)
    have H4 := hideP (h4.fr F9)
    have H7 := hideP (h7.fr F9)
    have HX := hideP hX
    have HO := hideP (own_fr hown F9)
    have HF := hideP (hfr.trans F9)
    have hX7 : w.heap.size + 1 + 1 < wr.heap.size := h7.lt
    clear F9 hX h3 h4 h7 hown hfr
    rename_i held
    clear held
    obtain ⟨X, hXe⟩ : ∃ X, wr.heap.size = X := ⟨_, rfl⟩
    rw [hXe] at HX hX7 hsz ⊢
    clear hXe
    have a0 : W9.cell? ⟨w.heap.size, 0, none⟩ = some (.int .i64 1) := H3.out.cell 0 rfl
    have x0 : W9.cell? ⟨X, 0, none⟩ = some (.int .i64 xk) := HX.out.cell 0 rfl
    have x1 : W9.cell? ⟨X, 1, none⟩ = some (.int .i64 xn) := HX.out.cell 1 rfl
    by_cases hk0 : xk = 0
    ·
     have HSt := hideP (hst.trans (by rw [if_pos hk0, List.append_nil]))
     have HOv : Hid (((V).headD BG.nulV) = ((V).headD BG.nulV)) := rfl
     skip
     clear hst
     go_wp2_with fail
     go_roundw
     case rel => exact ⟨i + 1, by go_num, by omega, by first | (rw [HSt.out]; done) | (rw [HSt.out]; first | rfl | (simp; done) | (congr 1; simp)), by rw [HSt.out]; exact HO.out, H3.out, H4.out, by rw [HSt.out, HOv.out]; exact H7.out, HF.out⟩
     case measure => simp [intOf]; omega
    have HSt := hideP (hst.trans (by rw [if_neg hk0]))
    clear hst
    clear hvo
    have HLit := hideP (lit_one cdZ W9 xn 2)
    have HO1 := hideP (own_fr HO.out ((Fr.refl W9).alloc (.cells #[.int .i64 xn] 2)))
    have hsz9 : w.heap.size ≤ W9.heap.size := HF.out.size
    go_wp2_with (at_builtin; refine wpList_append_L cdZ rfl _ _ 109 2 i0 _ 8 rfl Tryz.underlying109 hi0 hz0 hz1 hz2 rfl w.heap.size _ V.length _ rfl HO1.out (.slice (some ⟨W9.heap.size, 0, none⟩) 1 1) [xn] rfl HLit.out ?c3 ?c4 ?c5 ?_)
    case c3 => unfold maxLen; first | omega | (simp <;> omega)
    case c4 => first | omega | (simp <;> omega)
    case c5 => first | omega | (simp <;> omega)
    intro v2 wB own2 gr2
    have HN2 := hideP (show wB.ownsRow w.heap.size 2 1 v2 (V ++ [(⟨xk, xn, xs⟩ : VM.Vl)]).length (flat cdZ ((V ++ [(⟨xk, xn, xs⟩ : VM.Vl)]).map (·.n))) by rw [List.map_append, List.length_append]; exact own2)
    have FB := hideP (show Fr w wB from Below.grown (HF.out.alloc _) gr2 (by simp <;> omega) (own_base HO1.out))
    replace H3 := hideP ((H3.out.old (.cells #[.int .i64 xn] 2)).gro HO1.out (by decide) gr2)
    replace H4 := hideP ((H4.out.old (.cells #[.int .i64 xn] 2)).gro HO1.out (by decide) gr2)
    replace H7 := hideP ((H7.out.old (.cells #[.int .i64 xn] 2)).gro HO1.out (by decide) gr2)
    replace HX := hideP ((HX.out.old (.cells #[.int .i64 xn] 2)).gro HO1.out (by decide) gr2)
    clear own2 gr2 HO HO1 HLit HF a0 x0 x1 hsz9
    have a0 : wB.cell? ⟨w.heap.size, 0, none⟩ = some (.int .i64 1) := H3.out.cell 0 rfl
    have x0 : wB.cell? ⟨X, 0, none⟩ = some (.int .i64 xk) := HX.out.cell 0 rfl
    have x1 : wB.cell? ⟨X, 1, none⟩ = some (.int .i64 xn) := HX.out.cell 1 rfl
    have x2 : wB.cell? ⟨X, 2, none⟩ = some (.string xs) := HX.out.cell 2 rfl
    obtain ⟨⟨yk, yn, ys⟩, hy⟩ : ∃ y, ((V).headD BG.nulV) = y := ⟨_, rfl⟩
    have HY := hideP hy
    rw [hy] at H7
    have z0 : wB.cell? ⟨w.heap.size + 1 + 1, 0, none⟩ = some (.int .i64 yk) := H7.out.cell 0 rfl
    have z1 : wB.cell? ⟨w.heap.size + 1 + 1, 1, none⟩ = some (.int .i64 yn) := H7.out.cell 1 rfl
    have z2 : wB.cell? ⟨w.heap.size + 1 + 1, 2, none⟩ = some (.string ys) := H7.out.cell 2 rfl
    have u0 := H7.out.frozen 0
    have u1 := H7.out.frozen 1
    have u2 := H7.out.frozen 2
    by_cases hV0 : V = []
    ·
     subst hV0
     have hyk : yk = 0 := by
      have : BG.nulV = (⟨yk, yn, ys⟩ : VM.Vl) := hy
      injection this with e
      exact e.symm
     have HOv : Hid ((([] ++ [(⟨xk, xn, xs⟩ : VM.Vl)]).headD BG.nulV) = ⟨xk, xn, xs⟩) := by
      rfl
     clear hy
     go_wp2_with fail
     go_roundw
     case rel => exact ⟨i + 1, by go_num, by omega, by first | (rw [HSt.out]; done) | (rw [HSt.out]; first | rfl | (simp; done) | (congr 1; simp)), by rw [HSt.out]; exact own_put3 HN2.out H7.out (by decide) _ _ _, H3.out.oput3 (b := w.heap.size + 1 + 1) (by omega) _ _ _, H4.out.oput3 (b := w.heap.size + 1 + 1) (by omega) _ _ _, by rw [HSt.out, HOv.out]; exact H7.out.put3 _ _ _, FB.out.put3 (w.heap.size + 1 + 1) (by omega) _ _ _⟩
     case measure => simp [intOf]; omega
    have hym : yk ≠ 0 ∧ VM.chk ⟨yk, yn, ys⟩ = 0 ∧ ys.size ≤ maxLen := by
     have := hVm ⟨yk, yn, ys⟩ (by rw [← hy]; exact head_in hV0)
     exact this
    have hy0 : (yk == 0) = false := beq_false_of_ne hym.1
    have hy1 : ¬ yk = 0 := hym.1
    have HOv : Hid (((V ++ [(⟨xk, xn, xs⟩ : VM.Vl)]).headD BG.nulV) = ⟨yk, yn, ys⟩) := by
     unfold Hid
     rw [← hy]
     cases V with
     | nil => exact absurd rfl hV0
     | cons p q => rfl
    clear hy hym
    go_wp2_with fail
    go_roundw
    case rel => exact ⟨i + 1, by go_num, by omega, by first | (rw [HSt.out]; done) | (rw [HSt.out]; first | rfl | (simp; done) | (congr 1; simp)), by rw [HSt.out]; exact HN2.out, H3.out, H4.out, by rw [HSt.out, HOv.out]; exact H7.out, FB.out⟩
    case measure => simp [intOf]; omega)
  obtain rfl : i = ls.length := by omega
  rw [List.take_length] at hown h7 hvl hVm hVk  ⊢
  generalize BG.vls ls C = V at *
  have H3 := hideP h3
  have H4 := hideP h4
  have H7 := hideP h7
  have HO := hideP hown
  have HF := hideP hfr
  have a0 := h3.cell 0 rfl
  clear h3 h4 h7 hown hfr
  have p0 := H4.out.cell 0 rfl
  have p1 := H4.out.cell 1 rfl
  have p2 := H4.out.cell 2 rfl
  have y0 := H4.out.frozen 0
  have y1 := H4.out.frozen 1
  have y2 := H4.out.frozen 2
  go_wp2_with fail
  have N4 := H4.out.put3 (.int .i64 (1)) (.int .i64 ((V.length : Int))) (.string ⟨#[]⟩)
  have r0 := N4.cell 0 rfl
  have r1 := N4.cell 1 rfl
  have r2 := N4.cell 2 rfl
  unfold put3 at r0 r1 r2
  refine bodyPost_ret (v := .tuple #[.agg #[.int .i64 (1), .int .i64 ((V.length : Int)), .string ⟨#[]⟩], .int .i64 (0)]) ?_ rfl ⟨by rw [HK.out]; rfl, HF.out.put3 (w.heap.size + 1) (by omega) _ _ _⟩
  simp [results, Tryz.results57, go_sem, r0, r1, r2]
theorem toldOf_2 (v : Value) (ls : List (List VM.Vl)) (C : Nat) (w : World) (hr : IsRR w v ls) (hin : ∀ r ∈ ls, C < r.length) (hch : ∀ r ∈ ls, ∀ x ∈ r, VM.chk x = 0) (hok : ∀ r ∈ ls, ∀ x ∈ r, WH.Ok x.n) (hsz : ∀ r ∈ ls, ∀ x ∈ r, x.s.size ≤ maxLen) (hl : ls.length ≤ 40) :
  Calls Tryz.prog 57 #[v, .agg #[.int .i64 2, .int .i64 (C : Int)]] w fun e w' => e = .returned (exV (BG.tel ls ⟨2, (C : Int)⟩)) ∧ Fr w w' := by
 have HK : Hid (BG.tel ls ⟨2, (C : Int)⟩ = if BG.vls ls C = [] then .ok BG.nulV else BG.smO (BG.vls ls C)) := by
  unfold Hid BG.tel
  rw [if_neg (by simp <;> omega)]
  simp only [Int.toNat_natCast]
  rw [if_neg (by decide)]
  rfl
 obtain ⟨i0, hi0, hz0, hz1, hz2⟩ := info_parts Tryz.infoI64
 have HVm := hideP (fun (i : Nat) x (hx : x ∈ BG.vls (ls.take i) C) => BG.vls_mem (BG.vls_take hx) hin)
 have HIn := hideP hin
 have HCh := hideP hch
 have HOk := hideP hok
 have HSz := hideP hsz
 obtain ⟨a, c, rfl⟩ := hr.slice
 obtain ⟨qs, hq, _, hc, hcell, hrow⟩ := hr.at
 have HCe := hideP hcell
 have HRo := hideP hrow
 clear hcell hrow hr hin hch hok hsz hc
 generalize BG.tel ls ⟨2, (C : Int)⟩ = R at *
 have HG3 := hideP (Blk.new w #[.int .i64 2, .int .i64 (C : Int)] 66)
 have HG4 := hideP (Blk.new (w.alloc (.cells #[.int .i64 2, .int .i64 (C : Int)] 66)) #[.int .i64 0, .int .i64 0, .string ⟨#[]⟩] 56)
 have HG3b := hideP (HG3.out.old (.cells #[.int .i64 0, .int .i64 0, .string ⟨#[]⟩] 56))
 have F2 := hideP (((Fr.refl w).alloc (.cells #[.int .i64 2, .int .i64 (C : Int)] 66)).alloc (.cells #[.int .i64 0, .int .i64 0, .string ⟨#[]⟩] 56))
 simp only [World.size_alloc] at HG4
 obtain ⟨W2, hW2⟩ : ∃ x, (w.alloc (.cells #[.int .i64 2, .int .i64 (C : Int)] 66)).alloc (.cells #[.int .i64 0, .int .i64 0, .string ⟨#[]⟩] 56) = x := ⟨_, rfl⟩
 have hs2 : W2.heap.size = w.heap.size + 1 + 1 := by rw [← hW2]; simp
 rw [hW2] at HG3b HG4 F2
 have a0 : W2.cell? ⟨w.heap.size, 0, none⟩ = some (.int .i64 2) := HG3b.out.cell 0 rfl
 have a1 : W2.cell? ⟨w.heap.size, 1, none⟩ = some (.int .i64 (C : Int)) := HG3b.out.cell 1 rfl
 have H3a := hideP (HG3b.out.old (.cells #[.int .i64 0, .int .i64 0, .string ⟨#[]⟩] 56))
 have H4a := hideP (HG4.out.old (.cells #[.int .i64 0, .int .i64 0, .string ⟨#[]⟩] 56))
 have H7a := hideP (Blk.new W2 #[.int .i64 0, .int .i64 0, .string ⟨#[]⟩] 56)
 rw [hs2] at H7a
 have F3 := hideP (F2.out.alloc (.cells #[.int .i64 0, .int .i64 0, .string ⟨#[]⟩] 56))
 go_enter Tryz.func57, Tryz.ntmps57
 go_wp2_with fail
 clear a0 a1
 go_loopw [6, 8, 9, 10] (fun mv iv kv _ wr => ∃ i : Nat, kv = .int .i64 i ∧ i ≤ ls.length ∧ mv = .int .i64 ((BG.vls (ls.take i) C).length : Int) ∧ wr.ownsRow w.heap.size 2 1 iv (BG.vls (ls.take i) C).length (flat cdZ ((BG.vls (ls.take i) C).map (·.n))) ∧ Blk wr w.heap.size #[.int .i64 2, .int .i64 (C : Int)] 66 ∧ Blk wr (w.heap.size + 1) #[.int .i64 0, .int .i64 0, .string ⟨#[]⟩] 56 ∧ Blk wr (w.heap.size + 1 + 1) (vA ((BG.vls (ls.take i) C).headD BG.nulV)) 56 ∧ (BG.vls (ls.take i) C).all (fun x => decide (x.k = 1)) = true ∧ Fr w wr) (fun _ _ kv _ _ => ls.length - (intOf kv).toNat)
 case atStart => exact ⟨0, rfl, Nat.zero_le _, rfl, World.ownsRow_nil _ _ _ _, H3a.out, H4a.out, H7a.out, rfl, F3.out⟩
 case round =>
  clear H3a H4a H7a F3 HG3b HG4 F2 hW2 hs2
  obtain ⟨i, rfl, hi, rfl, hown, h3, h4, h7, hall, hfr⟩ := hrel
  obtain ⟨fa, fc, rfl⟩ := own_slice hown
  have hvl := BG.vls_len ls C i
  have hsz := hfr.size
  have hVm : ∀ y ∈ BG.vls (ls.take i) C, y.k ≠ 0 ∧ VM.chk y = 0 ∧ y.s.size ≤ maxLen := fun y hy => by
   obtain ⟨r, hr, hx⟩ := HVm.out i y hy
   exact ⟨BG.vls_k hy, HCh.out r hr y hx, HSz.out r hr y hx⟩
  have hVk : ∀ y ∈ BG.vls (ls.take i) C, WH.Ok y.n := fun y hy => by
   obtain ⟨r, hr, hx⟩ := HVm.out i y hy
   exact HOk.out r hr y hx
  by_cases hlt : i < ls.length
  ·
   have hlt' : (i : Int) < (ls.length : Int) := by omega
   have hi40 : i < 40 := by omega
   obtain ⟨b, o, rfl, hbb, c0⟩ := HCe.out i (by omega)
   obtain ⟨h1, h2⟩ := HRo.out i (by omega) hlt
   have hst := BG.vls_step ls C i hlt
   have hCr := HIn.out ls[i] (List.getElem_mem hlt)
   have hlm : ls[i] ∈ ls := List.getElem_mem hlt
   have hvo := BG.vls_of (C := C) hlm
   generalize ls[i] = r at *
   obtain ⟨q, hqq⟩ : ∃ q, (qs[i]'(by omega)) = q := ⟨_, rfl⟩
   rw [hqq] at h1 h2 c0
   obtain ⟨qa, qn, qc⟩ := q
   simp only [Sq.v] at h1 h2 c0
   obtain ⟨ra, rc, er, _, hrs⟩ := h1
   simp only [Value.slice.injEq] at er
   obtain ⟨rfl, rfl, rfl⟩ := er
   obtain ⟨rb, ro, rfl, hrb, hrat⟩ : ∃ b o, qa = some ⟨b, o, none⟩ ∧ b < w.heap.size ∧ At cdV w b o r := by
    rcases hrs with h | h
    · rw [h] at hCr; simp at hCr
    · exact h
   obtain ⟨d0, d1, d2⟩ := (hrat.fr hrb hfr).v3 C hCr
   have c0' := (Below.cell hfr (World.block_lt_of_cell? _ _ c0)).trans c0
   have hgd : r.getD C BG.nulV = r[C] := by rw [List.getD_eq_getElem?_getD, List.getElem?_eq_getElem hCr]; rfl
   rw [hgd] at hst hvo
   have hxm : r[C] ∈ r := List.getElem_mem hCr
   have hxs := HSz.out r hlm _ hxm
   have hxc := HCh.out r hlm _ hxm
   generalize r[C] = x at *
   obtain ⟨xk, xn, xs⟩ := x
   simp only at d0 d1 d2 hst hvo hxs
   have hC' : (C : Int) < (r.length : Int) := by omega
   have e1 := h3.cell 1 rfl
   have HS := hideP (show wr.cell? ⟨b, o + i, none⟩ = some (.slice (some ⟨rb, ro, none⟩) r.length qc) ∧ wr.cell? ⟨w.heap.size, 1, none⟩ = some (.int .i64 (C : Int)) ∧ wr.cell? ⟨rb, ro + C * 3, none⟩ = some (.int .i64 xk) ∧ wr.cell? ⟨rb, ro + C * 3 + 1, none⟩ = some (.int .i64 xn) ∧ wr.cell? ⟨rb, ro + C * 3 + 2, none⟩ = some (.string xs) from ⟨c0', e1, d0, d1, d2⟩)
   have hz := Fr.drew (Fr.refl wr)
   have hrl : r.length = r.length := rfl
   generalize hrn : r.length = rn at *
   generalize BG.vls (ls.take i) C = V at *
   clear c0' e1 d0 d1 d2 c0 hrat hrs hqq hgd
   go_upto_region 9 with fail
   go_region_held3 (fun W => W.cell? ⟨b, o + i, none⟩ = some (.slice (some ⟨rb, ro, none⟩) rn qc) ∧ W.cell? ⟨w.heap.size, 1, none⟩ = some (.int .i64 (C : Int)) ∧ W.cell? ⟨rb, ro + C * 3, none⟩ = some (.int .i64 xk) ∧ W.cell? ⟨rb, ro + C * 3 + 1, none⟩ = some (.int .i64 xn) ∧ W.cell? ⟨rb, ro + C * 3 + 2, none⟩ = some (.string xs)) (first | exact HS.out | exact c5_after hz HS.out | exact c5_after (hz.alloc _) HS.out | exact c5_after ((hz.alloc _).put3 _ (Nat.le_refl _) _ _ _) HS.out) (first | fail)
   all_goals (
    obtain ⟨W9, hW9⟩ : ∃ W9, (wr.alloc (.cells #[.int .i64 xk, .int .i64 xn, .string xs] 56)).drew = W9 := ⟨_, rfl⟩
    have F9 : Fr wr W9 := by rw [← hW9]; exact Fr.drew ((Fr.refl _).alloc _)
    have hX : Blk W9 wr.heap.size (vA ⟨xk, xn, xs⟩) 56 := by rw [← hW9]; exact (Blk.new wr _ _).fr (Fr.drew (Fr.refl _))
    rw [hW9]
    clear hW9 hz HS
    have H3 := hideP (h3.fr F9)
    have H4 := hideP (h4.fr F9)
    have H7 := hideP (h7.fr F9)
    have HX := hideP hX
    have HO := hideP (own_fr hown F9)
    have HF := hideP (hfr.trans F9)
    have hX7 : w.heap.size + 1 + 1 < wr.heap.size := h7.lt
    clear F9 hX h3 h4 h7 hown hfr
    rename_i held
    clear held
    obtain ⟨X, hXe⟩ : ∃ X, wr.heap.size = X := ⟨_, rfl⟩
    rw [hXe] at HX hX7 hsz ⊢
    clear hXe
    have a0 : W9.cell? ⟨w.heap.size, 0, none⟩ = some (.int .i64 2) := H3.out.cell 0 rfl
    have x0 : W9.cell? ⟨X, 0, none⟩ = some (.int .i64 xk) := HX.out.cell 0 rfl
    have x1 : W9.cell? ⟨X, 1, none⟩ = some (.int .i64 xn) := HX.out.cell 1 rfl
    by_cases hk0 : xk = 0
    ·
     have HSt := hideP (hst.trans (by rw [if_pos hk0, List.append_nil]))
     have HOv : Hid (((V).headD BG.nulV) = ((V).headD BG.nulV)) := rfl
     have HAll := hideP hall
     clear hst
     go_wp2_with fail
     go_roundw
     case rel => exact ⟨i + 1, by go_num, by omega, by first | (rw [HSt.out]; done) | (rw [HSt.out]; first | rfl | (simp; done) | (congr 1; simp)), by rw [HSt.out]; exact HO.out, H3.out, H4.out, by rw [HSt.out, HOv.out]; exact H7.out, by rw [HSt.out]; exact HAll.out, HF.out⟩
     case measure => simp [intOf]; omega
    have HSt := hideP (hst.trans (by rw [if_neg hk0]))
    clear hst
    by_cases hx1 : xk = 1
    case neg =>
     have hxv : (⟨xk, xn, xs⟩ : VM.Vl) ∈ BG.vls ls C := hvo hk0
     have HZ := hideP (show R = .error 7 by
      rw [HK.out, if_neg (fun h => by rw [h] at hxv; cases hxv)]
      unfold BG.smO
      rw [if_pos]
      rw [List.all_eq_false]
      exact ⟨_, hxv, by simpa using hx1⟩)
     have k1 : (xk != 1) = true := by simp [hx1]
     clear hvo
     have p0 := H4.out.cell 0 rfl
     have p1 := H4.out.cell 1 rfl
     have p2 := H4.out.cell 2 rfl
     have y0 := H4.out.frozen 0
     have y1 := H4.out.frozen 1
     have y2 := H4.out.frozen 2
     go_wp2_with fail
     have N4 := H4.out.put3 (.int .i64 (0)) (.int .i64 (0)) (.string ⟨#[]⟩)
     have r0 := N4.cell 0 rfl
     have r1 := N4.cell 1 rfl
     have r2 := N4.cell 2 rfl
     unfold put3 at r0 r1 r2
     refine bodyPost_ret (v := .tuple #[.agg #[.int .i64 (0), .int .i64 (0), .string ⟨#[]⟩], .int .i64 (7)]) ?_ rfl ⟨by rw [HZ.out]; rfl, HF.out.put3 (w.heap.size + 1) (by omega) _ _ _⟩
     simp [results, Tryz.results57, go_sem, r0, r1, r2]
    have k1 : (xk != 1) = false := by simp [hx1]
    have HAll := hideP (show (V ++ [(⟨xk, xn, xs⟩ : VM.Vl)]).all (fun x => decide (x.k = 1)) = true by rw [List.all_append, hall]; simp [hx1])
    clear hall
    clear hvo
    have HLit := hideP (lit_one cdZ W9 xn 2)
    have HO1 := hideP (own_fr HO.out ((Fr.refl W9).alloc (.cells #[.int .i64 xn] 2)))
    have hsz9 : w.heap.size ≤ W9.heap.size := HF.out.size
    go_wp2_with (at_builtin; refine wpList_append_L cdZ rfl _ _ 109 2 i0 _ 8 rfl Tryz.underlying109 hi0 hz0 hz1 hz2 rfl w.heap.size _ V.length _ rfl HO1.out (.slice (some ⟨W9.heap.size, 0, none⟩) 1 1) [xn] rfl HLit.out ?c3 ?c4 ?c5 ?_)
    case c3 => unfold maxLen; first | omega | (simp <;> omega)
    case c4 => first | omega | (simp <;> omega)
    case c5 => first | omega | (simp <;> omega)
    intro v2 wB own2 gr2
    have HN2 := hideP (show wB.ownsRow w.heap.size 2 1 v2 (V ++ [(⟨xk, xn, xs⟩ : VM.Vl)]).length (flat cdZ ((V ++ [(⟨xk, xn, xs⟩ : VM.Vl)]).map (·.n))) by rw [List.map_append, List.length_append]; exact own2)
    have FB := hideP (show Fr w wB from Below.grown (HF.out.alloc _) gr2 (by simp <;> omega) (own_base HO1.out))
    replace H3 := hideP ((H3.out.old (.cells #[.int .i64 xn] 2)).gro HO1.out (by decide) gr2)
    replace H4 := hideP ((H4.out.old (.cells #[.int .i64 xn] 2)).gro HO1.out (by decide) gr2)
    replace H7 := hideP ((H7.out.old (.cells #[.int .i64 xn] 2)).gro HO1.out (by decide) gr2)
    replace HX := hideP ((HX.out.old (.cells #[.int .i64 xn] 2)).gro HO1.out (by decide) gr2)
    clear own2 gr2 HO HO1 HLit HF a0 x0 x1 hsz9
    have a0 : wB.cell? ⟨w.heap.size, 0, none⟩ = some (.int .i64 2) := H3.out.cell 0 rfl
    have x0 : wB.cell? ⟨X, 0, none⟩ = some (.int .i64 xk) := HX.out.cell 0 rfl
    have x1 : wB.cell? ⟨X, 1, none⟩ = some (.int .i64 xn) := HX.out.cell 1 rfl
    have x2 : wB.cell? ⟨X, 2, none⟩ = some (.string xs) := HX.out.cell 2 rfl
    obtain ⟨⟨yk, yn, ys⟩, hy⟩ : ∃ y, ((V).headD BG.nulV) = y := ⟨_, rfl⟩
    have HY := hideP hy
    rw [hy] at H7
    have z0 : wB.cell? ⟨w.heap.size + 1 + 1, 0, none⟩ = some (.int .i64 yk) := H7.out.cell 0 rfl
    have z1 : wB.cell? ⟨w.heap.size + 1 + 1, 1, none⟩ = some (.int .i64 yn) := H7.out.cell 1 rfl
    have z2 : wB.cell? ⟨w.heap.size + 1 + 1, 2, none⟩ = some (.string ys) := H7.out.cell 2 rfl
    have u0 := H7.out.frozen 0
    have u1 := H7.out.frozen 1
    have u2 := H7.out.frozen 2
    by_cases hV0 : V = []
    ·
     subst hV0
     have hyk : yk = 0 := by
      have : BG.nulV = (⟨yk, yn, ys⟩ : VM.Vl) := hy
      injection this with e
      exact e.symm
     have HOv : Hid ((([] ++ [(⟨xk, xn, xs⟩ : VM.Vl)]).headD BG.nulV) = ⟨xk, xn, xs⟩) := by
      rfl
     clear hy
     go_wp2_with fail
     go_roundw
     case rel => exact ⟨i + 1, by go_num, by omega, by first | (rw [HSt.out]; done) | (rw [HSt.out]; first | rfl | (simp; done) | (congr 1; simp)), by rw [HSt.out]; exact own_put3 HN2.out H7.out (by decide) _ _ _, H3.out.oput3 (b := w.heap.size + 1 + 1) (by omega) _ _ _, H4.out.oput3 (b := w.heap.size + 1 + 1) (by omega) _ _ _, by rw [HSt.out, HOv.out]; rw [hx1]; exact H7.out.put3 _ _ _, by rw [HSt.out]; exact HAll.out, FB.out.put3 (w.heap.size + 1 + 1) (by omega) _ _ _⟩
     case measure => simp [intOf]; omega
    have hym : yk ≠ 0 ∧ VM.chk ⟨yk, yn, ys⟩ = 0 ∧ ys.size ≤ maxLen := by
     have := hVm ⟨yk, yn, ys⟩ (by rw [← hy]; exact head_in hV0)
     exact this
    have hy0 : (yk == 0) = false := beq_false_of_ne hym.1
    have hy1 : ¬ yk = 0 := hym.1
    have HOv : Hid (((V ++ [(⟨xk, xn, xs⟩ : VM.Vl)]).headD BG.nulV) = ⟨yk, yn, ys⟩) := by
     unfold Hid
     rw [← hy]
     cases V with
     | nil => exact absurd rfl hV0
     | cons p q => rfl
    clear hy hym
    go_wp2_with fail
    go_roundw
    case rel => exact ⟨i + 1, by go_num, by omega, by first | (rw [HSt.out]; done) | (rw [HSt.out]; first | rfl | (simp; done) | (congr 1; simp)), by rw [HSt.out]; exact HN2.out, H3.out, H4.out, by rw [HSt.out, HOv.out]; exact H7.out, by rw [HSt.out]; exact HAll.out, FB.out⟩
    case measure => simp [intOf]; omega)
  obtain rfl : i = ls.length := by omega
  rw [List.take_length] at hown h7 hvl hVm hVk hall ⊢
  generalize BG.vls ls C = V at *
  have H3 := hideP h3
  have H4 := hideP h4
  have H7 := hideP h7
  have HO := hideP hown
  have HF := hideP hfr
  have a0 := h3.cell 0 rfl
  clear h3 h4 h7 hown hfr
  by_cases hV0 : V = []
  ·
   have HZ := hideP (HK.out.trans (if_pos hV0))
   subst hV0
   have z0 : wr.cell? ⟨w.heap.size + 1 + 1, 0, none⟩ = some (.int .i64 0) := H7.out.cell 0 rfl
   have z1 : wr.cell? ⟨w.heap.size + 1 + 1, 1, none⟩ = some (.int .i64 0) := H7.out.cell 1 rfl
   have z2 : wr.cell? ⟨w.heap.size + 1 + 1, 2, none⟩ = some (.string ⟨#[]⟩) := H7.out.cell 2 rfl
   have hl0 : ([] : List VM.Vl).length = 0 := rfl
   simp only [List.length_nil]
   have p0 := H4.out.cell 0 rfl
   have p1 := H4.out.cell 1 rfl
   have p2 := H4.out.cell 2 rfl
   have y0 := H4.out.frozen 0
   have y1 := H4.out.frozen 1
   have y2 := H4.out.frozen 2
   go_wp2_with fail
   have N4 := H4.out.put3 (.int .i64 (0)) (.int .i64 (0)) (.string ⟨#[]⟩)
   have r0 := N4.cell 0 rfl
   have r1 := N4.cell 1 rfl
   have r2 := N4.cell 2 rfl
   unfold put3 at r0 r1 r2
   refine bodyPost_ret (v := .tuple #[.agg #[.int .i64 (0), .int .i64 (0), .string ⟨#[]⟩], .int .i64 (0)]) ?_ rfl ⟨by rw [HZ.out]; rfl, HF.out.put3 (w.heap.size + 1) (by omega) _ _ _⟩
   simp [results, Tryz.results57, go_sem, r0, r1, r2]
  replace HK := hideP (HK.out.trans (if_neg hV0))
  have hpos : 0 < V.length := List.length_pos_iff.2 hV0
  have hposZ : (0 : Int) < (V.length : Int) := by omega
  have hsm : BG.smO V = if WH.err (V.map (·.n)).sum ≠ 0 then .error 8 else .ok ⟨1, (V.map (·.n)).sum, ⟨#[]⟩⟩ := by
   unfold BG.smO
   rw [if_neg (by rw [hall]; decide), if_neg (by omega)]
  replace HK := hideP (HK.out.trans hsm)
  have hml : (V.map (·.n)).length = V.length := by simp
  have hown2 : wr.ownsRow w.heap.size 2 1 (.slice fa V.length fc) (V.map (·.n)).length (flat cdZ (V.map (·.n))) := by rw [hml]; exact HO.out
  have cs := totalOf_any (.slice fa V.length fc) (V.map (·.n)) wr (isTots_of (isL_own hown2)) (fun x hx => by obtain ⟨y, hy, rfl⟩ := List.mem_map.1 hx; exact (hVk y hy)) (by rw [hml]; omega)
  unfold sumTwo two at cs
  rw [hml, if_neg (by omega)] at cs
  clear hsm hml hown2 hall hVm hVk
  generalize (V.map (·.n)).sum = sm at *
  by_cases hs0 : WH.Ok sm
  ·
   rw [WH.err_ok hs0, WH.val_ok hs0] at cs
   have HZ := hideP (HK.out.trans (if_neg (by rw [WH.err_ok hs0]; simp)))
   clear hs0
   go_wp2_with fail
   refine cs.mono ?_
   rintro _ w2 ⟨rfl, rfl⟩
   clear cs
   have p0 := H4.out.cell 0 rfl
   have p1 := H4.out.cell 1 rfl
   have p2 := H4.out.cell 2 rfl
   have y0 := H4.out.frozen 0
   have y1 := H4.out.frozen 1
   have y2 := H4.out.frozen 2
   go_wp2_with fail
   have N4 := H4.out.put3 (.int .i64 (1)) (.int .i64 (sm)) (.string ⟨#[]⟩)
   have r0 := N4.cell 0 rfl
   have r1 := N4.cell 1 rfl
   have r2 := N4.cell 2 rfl
   unfold put3 at r0 r1 r2
   refine bodyPost_ret (v := .tuple #[.agg #[.int .i64 (1), .int .i64 (sm), .string ⟨#[]⟩], .int .i64 (0)]) ?_ rfl ⟨by rw [HZ.out]; rfl, HF.out.put3 (w.heap.size + 1) (by omega) _ _ _⟩
   simp [results, Tryz.results57, go_sem, r0, r1, r2]
  ·
   have e8 : WH.err sm = 8 := if_neg hs0
   have v0 : WH.val sm = 0 := if_neg hs0
   rw [e8, v0] at cs
   have HZ := hideP (HK.out.trans (if_pos (by rw [e8]; decide)))
   clear hs0 e8 v0
   go_wp2_with fail
   refine cs.mono ?_
   rintro _ w2 ⟨rfl, rfl⟩
   clear cs
   have p0 := H4.out.cell 0 rfl
   have p1 := H4.out.cell 1 rfl
   have p2 := H4.out.cell 2 rfl
   have y0 := H4.out.frozen 0
   have y1 := H4.out.frozen 1
   have y2 := H4.out.frozen 2
   go_wp2_with fail
   have N4 := H4.out.put3 (.int .i64 (0)) (.int .i64 (0)) (.string ⟨#[]⟩)
   have r0 := N4.cell 0 rfl
   have r1 := N4.cell 1 rfl
   have r2 := N4.cell 2 rfl
   unfold put3 at r0 r1 r2
   refine bodyPost_ret (v := .tuple #[.agg #[.int .i64 (0), .int .i64 (0), .string ⟨#[]⟩], .int .i64 (8)]) ?_ rfl ⟨by rw [HZ.out]; rfl, HF.out.put3 (w.heap.size + 1) (by omega) _ _ _⟩
   simp [results, Tryz.results57, go_sem, r0, r1, r2]
theorem toldOf_3 (v : Value) (ls : List (List VM.Vl)) (C : Nat) (w : World) (hr : IsRR w v ls) (hin : ∀ r ∈ ls, C < r.length) (hch : ∀ r ∈ ls, ∀ x ∈ r, VM.chk x = 0) (hok : ∀ r ∈ ls, ∀ x ∈ r, WH.Ok x.n) (hsz : ∀ r ∈ ls, ∀ x ∈ r, x.s.size ≤ maxLen) (hl : ls.length ≤ 40) :
  Calls Tryz.prog 57 #[v, .agg #[.int .i64 3, .int .i64 (C : Int)]] w fun e w' => e = .returned (exV (BG.tel ls ⟨3, (C : Int)⟩)) ∧ Fr w w' := by
 have HK : Hid (BG.tel ls ⟨3, (C : Int)⟩ = .ok (BG.fO (-1) (BG.vls ls C))) := by
  unfold Hid BG.tel
  rw [if_neg (by simp <;> omega)]
  simp only [Int.toNat_natCast]
  by_cases h0 : BG.vls ls C = []
  · simp [h0, BG.fO] <;> rfl
  · simp [h0, BG.fO] <;> rfl
 obtain ⟨i0, hi0, hz0, hz1, hz2⟩ := info_parts Tryz.infoI64
 have HVm := hideP (fun (i : Nat) x (hx : x ∈ BG.vls (ls.take i) C) => BG.vls_mem (BG.vls_take hx) hin)
 have HIn := hideP hin
 have HCh := hideP hch
 have HOk := hideP hok
 have HSz := hideP hsz
 obtain ⟨a, c, rfl⟩ := hr.slice
 obtain ⟨qs, hq, _, hc, hcell, hrow⟩ := hr.at
 have HCe := hideP hcell
 have HRo := hideP hrow
 clear hcell hrow hr hin hch hok hsz hc
 generalize BG.tel ls ⟨3, (C : Int)⟩ = R at *
 have HG3 := hideP (Blk.new w #[.int .i64 3, .int .i64 (C : Int)] 66)
 have HG4 := hideP (Blk.new (w.alloc (.cells #[.int .i64 3, .int .i64 (C : Int)] 66)) #[.int .i64 0, .int .i64 0, .string ⟨#[]⟩] 56)
 have HG3b := hideP (HG3.out.old (.cells #[.int .i64 0, .int .i64 0, .string ⟨#[]⟩] 56))
 have F2 := hideP (((Fr.refl w).alloc (.cells #[.int .i64 3, .int .i64 (C : Int)] 66)).alloc (.cells #[.int .i64 0, .int .i64 0, .string ⟨#[]⟩] 56))
 simp only [World.size_alloc] at HG4
 obtain ⟨W2, hW2⟩ : ∃ x, (w.alloc (.cells #[.int .i64 3, .int .i64 (C : Int)] 66)).alloc (.cells #[.int .i64 0, .int .i64 0, .string ⟨#[]⟩] 56) = x := ⟨_, rfl⟩
 have hs2 : W2.heap.size = w.heap.size + 1 + 1 := by rw [← hW2]; simp
 rw [hW2] at HG3b HG4 F2
 have a0 : W2.cell? ⟨w.heap.size, 0, none⟩ = some (.int .i64 3) := HG3b.out.cell 0 rfl
 have a1 : W2.cell? ⟨w.heap.size, 1, none⟩ = some (.int .i64 (C : Int)) := HG3b.out.cell 1 rfl
 have H3a := hideP (HG3b.out.old (.cells #[.int .i64 0, .int .i64 0, .string ⟨#[]⟩] 56))
 have H4a := hideP (HG4.out.old (.cells #[.int .i64 0, .int .i64 0, .string ⟨#[]⟩] 56))
 have H7a := hideP (Blk.new W2 #[.int .i64 0, .int .i64 0, .string ⟨#[]⟩] 56)
 rw [hs2] at H7a
 have F3 := hideP (F2.out.alloc (.cells #[.int .i64 0, .int .i64 0, .string ⟨#[]⟩] 56))
 go_enter Tryz.func57, Tryz.ntmps57
 go_wp2_with fail
 clear a0 a1
 go_loopw [6, 8, 9, 10] (fun mv iv kv _ wr => ∃ i : Nat, kv = .int .i64 i ∧ i ≤ ls.length ∧ mv = .int .i64 ((BG.vls (ls.take i) C).length : Int) ∧ wr.ownsRow w.heap.size 2 1 iv (BG.vls (ls.take i) C).length (flat cdZ ((BG.vls (ls.take i) C).map (·.n))) ∧ Blk wr w.heap.size #[.int .i64 3, .int .i64 (C : Int)] 66 ∧ Blk wr (w.heap.size + 1) #[.int .i64 0, .int .i64 0, .string ⟨#[]⟩] 56 ∧ Blk wr (w.heap.size + 1 + 1) (vA (BG.fO (-1) (BG.vls (ls.take i) C))) 56 ∧ Fr w wr) (fun _ _ kv _ _ => ls.length - (intOf kv).toNat)
 case atStart => exact ⟨0, rfl, Nat.zero_le _, rfl, World.ownsRow_nil _ _ _ _, H3a.out, H4a.out, H7a.out, F3.out⟩
 case round =>
  clear H3a H4a H7a F3 HG3b HG4 F2 hW2 hs2
  obtain ⟨i, rfl, hi, rfl, hown, h3, h4, h7, hfr⟩ := hrel
  obtain ⟨fa, fc, rfl⟩ := own_slice hown
  have hvl := BG.vls_len ls C i
  have hsz := hfr.size
  have hVm : ∀ y ∈ BG.vls (ls.take i) C, y.k ≠ 0 ∧ VM.chk y = 0 ∧ y.s.size ≤ maxLen := fun y hy => by
   obtain ⟨r, hr, hx⟩ := HVm.out i y hy
   exact ⟨BG.vls_k hy, HCh.out r hr y hx, HSz.out r hr y hx⟩
  have hVk : ∀ y ∈ BG.vls (ls.take i) C, WH.Ok y.n := fun y hy => by
   obtain ⟨r, hr, hx⟩ := HVm.out i y hy
   exact HOk.out r hr y hx
  by_cases hlt : i < ls.length
  ·
   have hlt' : (i : Int) < (ls.length : Int) := by omega
   have hi40 : i < 40 := by omega
   obtain ⟨b, o, rfl, hbb, c0⟩ := HCe.out i (by omega)
   obtain ⟨h1, h2⟩ := HRo.out i (by omega) hlt
   have hst := BG.vls_step ls C i hlt
   have hCr := HIn.out ls[i] (List.getElem_mem hlt)
   have hlm : ls[i] ∈ ls := List.getElem_mem hlt
   have hvo := BG.vls_of (C := C) hlm
   generalize ls[i] = r at *
   obtain ⟨q, hqq⟩ : ∃ q, (qs[i]'(by omega)) = q := ⟨_, rfl⟩
   rw [hqq] at h1 h2 c0
   obtain ⟨qa, qn, qc⟩ := q
   simp only [Sq.v] at h1 h2 c0
   obtain ⟨ra, rc, er, _, hrs⟩ := h1
   simp only [Value.slice.injEq] at er
   obtain ⟨rfl, rfl, rfl⟩ := er
   obtain ⟨rb, ro, rfl, hrb, hrat⟩ : ∃ b o, qa = some ⟨b, o, none⟩ ∧ b < w.heap.size ∧ At cdV w b o r := by
    rcases hrs with h | h
    · rw [h] at hCr; simp at hCr
    · exact h
   obtain ⟨d0, d1, d2⟩ := (hrat.fr hrb hfr).v3 C hCr
   have c0' := (Below.cell hfr (World.block_lt_of_cell? _ _ c0)).trans c0
   have hgd : r.getD C BG.nulV = r[C] := by rw [List.getD_eq_getElem?_getD, List.getElem?_eq_getElem hCr]; rfl
   rw [hgd] at hst hvo
   have hxm : r[C] ∈ r := List.getElem_mem hCr
   have hxs := HSz.out r hlm _ hxm
   have hxc := HCh.out r hlm _ hxm
   generalize r[C] = x at *
   obtain ⟨xk, xn, xs⟩ := x
   simp only at d0 d1 d2 hst hvo hxs
   have hC' : (C : Int) < (r.length : Int) := by omega
   have e1 := h3.cell 1 rfl
   have HS := hideP (show wr.cell? ⟨b, o + i, none⟩ = some (.slice (some ⟨rb, ro, none⟩) r.length qc) ∧ wr.cell? ⟨w.heap.size, 1, none⟩ = some (.int .i64 (C : Int)) ∧ wr.cell? ⟨rb, ro + C * 3, none⟩ = some (.int .i64 xk) ∧ wr.cell? ⟨rb, ro + C * 3 + 1, none⟩ = some (.int .i64 xn) ∧ wr.cell? ⟨rb, ro + C * 3 + 2, none⟩ = some (.string xs) from ⟨c0', e1, d0, d1, d2⟩)
   have hz := Fr.drew (Fr.refl wr)
   have hrl : r.length = r.length := rfl
   generalize hrn : r.length = rn at *
   generalize BG.vls (ls.take i) C = V at *
   clear c0' e1 d0 d1 d2 c0 hrat hrs hqq hgd
   go_upto_region 9 with fail
   go_region_held3 (fun W => W.cell? ⟨b, o + i, none⟩ = some (.slice (some ⟨rb, ro, none⟩) rn qc) ∧ W.cell? ⟨w.heap.size, 1, none⟩ = some (.int .i64 (C : Int)) ∧ W.cell? ⟨rb, ro + C * 3, none⟩ = some (.int .i64 xk) ∧ W.cell? ⟨rb, ro + C * 3 + 1, none⟩ = some (.int .i64 xn) ∧ W.cell? ⟨rb, ro + C * 3 + 2, none⟩ = some (.string xs)) (first | exact HS.out | exact c5_after hz HS.out | exact c5_after (hz.alloc _) HS.out | exact c5_after ((hz.alloc _).put3 _ (Nat.le_refl _) _ _ _) HS.out) (first | fail)
   all_goals (
    obtain ⟨W9, hW9⟩ : ∃ W9, (wr.alloc (.cells #[.int .i64 xk, .int .i64 xn, .string xs] 56)).drew = W9 := ⟨_, rfl⟩
    have F9 : Fr wr W9 := by rw [← hW9]; exact Fr.drew ((Fr.refl _).alloc _)
    have hX : Blk W9 wr.heap.size (vA ⟨xk, xn, xs⟩) 56 := by rw [← hW9]; exact (Blk.new wr _ _).fr (Fr.drew (Fr.refl _))
    rw [hW9]
    clear hW9 hz HS
    have H3 := hideP (h3.fr F9)
    have H4 := hideP (h4.fr F9)
    have H7 := hideP (h7.fr F9)
    have HX := hideP hX
    have HO := hideP (own_fr hown F9)
    have HF := hideP (hfr.trans F9)
    have hX7 : w.heap.size + 1 + 1 < wr.heap.size := h7.lt
    clear F9 hX h3 h4 h7 hown hfr
    rename_i held
    clear held
    obtain ⟨X, hXe⟩ : ∃ X, wr.heap.size = X := ⟨_, rfl⟩
    rw [hXe] at HX hX7 hsz ⊢
    clear hXe
    have a0 : W9.cell? ⟨w.heap.size, 0, none⟩ = some (.int .i64 3) := H3.out.cell 0 rfl
    have x0 : W9.cell? ⟨X, 0, none⟩ = some (.int .i64 xk) := HX.out.cell 0 rfl
    have x1 : W9.cell? ⟨X, 1, none⟩ = some (.int .i64 xn) := HX.out.cell 1 rfl
    by_cases hk0 : xk = 0
    ·
     have HSt := hideP (hst.trans (by rw [if_pos hk0, List.append_nil]))
     have HOv : Hid ((BG.fO (-1) (V)) = (BG.fO (-1) (V))) := rfl
     skip
     clear hst
     go_wp2_with fail
     go_roundw
     case rel => exact ⟨i + 1, by go_num, by omega, by first | (rw [HSt.out]; done) | (rw [HSt.out]; first | rfl | (simp; done) | (congr 1; simp)), by rw [HSt.out]; exact HO.out, H3.out, H4.out, by rw [HSt.out, HOv.out]; exact H7.out, HF.out⟩
     case measure => simp [intOf]; omega
    have HSt := hideP (hst.trans (by rw [if_neg hk0]))
    clear hst
    clear hvo
    have HLit := hideP (lit_one cdZ W9 xn 2)
    have HO1 := hideP (own_fr HO.out ((Fr.refl W9).alloc (.cells #[.int .i64 xn] 2)))
    have hsz9 : w.heap.size ≤ W9.heap.size := HF.out.size
    go_wp2_with (at_builtin; refine wpList_append_L cdZ rfl _ _ 109 2 i0 _ 8 rfl Tryz.underlying109 hi0 hz0 hz1 hz2 rfl w.heap.size _ V.length _ rfl HO1.out (.slice (some ⟨W9.heap.size, 0, none⟩) 1 1) [xn] rfl HLit.out ?c3 ?c4 ?c5 ?_)
    case c3 => unfold maxLen; first | omega | (simp <;> omega)
    case c4 => first | omega | (simp <;> omega)
    case c5 => first | omega | (simp <;> omega)
    intro v2 wB own2 gr2
    have HN2 := hideP (show wB.ownsRow w.heap.size 2 1 v2 (V ++ [(⟨xk, xn, xs⟩ : VM.Vl)]).length (flat cdZ ((V ++ [(⟨xk, xn, xs⟩ : VM.Vl)]).map (·.n))) by rw [List.map_append, List.length_append]; exact own2)
    have FB := hideP (show Fr w wB from Below.grown (HF.out.alloc _) gr2 (by simp <;> omega) (own_base HO1.out))
    replace H3 := hideP ((H3.out.old (.cells #[.int .i64 xn] 2)).gro HO1.out (by decide) gr2)
    replace H4 := hideP ((H4.out.old (.cells #[.int .i64 xn] 2)).gro HO1.out (by decide) gr2)
    replace H7 := hideP ((H7.out.old (.cells #[.int .i64 xn] 2)).gro HO1.out (by decide) gr2)
    replace HX := hideP ((HX.out.old (.cells #[.int .i64 xn] 2)).gro HO1.out (by decide) gr2)
    clear own2 gr2 HO HO1 HLit HF a0 x0 x1 hsz9
    have a0 : wB.cell? ⟨w.heap.size, 0, none⟩ = some (.int .i64 3) := H3.out.cell 0 rfl
    have x0 : wB.cell? ⟨X, 0, none⟩ = some (.int .i64 xk) := HX.out.cell 0 rfl
    have x1 : wB.cell? ⟨X, 1, none⟩ = some (.int .i64 xn) := HX.out.cell 1 rfl
    have x2 : wB.cell? ⟨X, 2, none⟩ = some (.string xs) := HX.out.cell 2 rfl
    obtain ⟨⟨yk, yn, ys⟩, hy⟩ : ∃ y, (BG.fO (-1) (V)) = y := ⟨_, rfl⟩
    have HY := hideP hy
    rw [hy] at H7
    have z0 : wB.cell? ⟨w.heap.size + 1 + 1, 0, none⟩ = some (.int .i64 yk) := H7.out.cell 0 rfl
    have z1 : wB.cell? ⟨w.heap.size + 1 + 1, 1, none⟩ = some (.int .i64 yn) := H7.out.cell 1 rfl
    have z2 : wB.cell? ⟨w.heap.size + 1 + 1, 2, none⟩ = some (.string ys) := H7.out.cell 2 rfl
    have u0 := H7.out.frozen 0
    have u1 := H7.out.frozen 1
    have u2 := H7.out.frozen 2
    by_cases hV0 : V = []
    ·
     subst hV0
     have hyk : yk = 0 := by
      have : BG.nulV = (⟨yk, yn, ys⟩ : VM.Vl) := hy
      injection this with e
      exact e.symm
     have HOv : Hid ((BG.fO (-1) ([] ++ [(⟨xk, xn, xs⟩ : VM.Vl)])) = ⟨xk, xn, xs⟩) := by
      exact BG.fO_one _ _
     clear hy
     go_wp2_with fail
     go_roundw
     case rel => exact ⟨i + 1, by go_num, by omega, by first | (rw [HSt.out]; done) | (rw [HSt.out]; first | rfl | (simp; done) | (congr 1; simp)), by rw [HSt.out]; exact own_put3 HN2.out H7.out (by decide) _ _ _, H3.out.oput3 (b := w.heap.size + 1 + 1) (by omega) _ _ _, H4.out.oput3 (b := w.heap.size + 1 + 1) (by omega) _ _ _, by rw [HSt.out, HOv.out]; exact H7.out.put3 _ _ _, FB.out.put3 (w.heap.size + 1 + 1) (by omega) _ _ _⟩
     case measure => simp [intOf]; omega
    have hym : yk ≠ 0 ∧ VM.chk ⟨yk, yn, ys⟩ = 0 ∧ ys.size ≤ maxLen := by
     have := hVm ⟨yk, yn, ys⟩ (by rw [← hy]; exact BG.fO_in _ hV0)
     exact this
    have hy0 : (yk == 0) = false := beq_false_of_ne hym.1
    have hy1 : ¬ yk = 0 := hym.1
    have hnx := BG.fO_next (-1) hV0 ⟨xk, xn, xs⟩
    rw [hy] at hnx
    obtain ⟨hcm, hcr⟩ := BG.cmp_of (a := ⟨xk, xn, xs⟩) (b := ⟨yk, yn, ys⟩) hxc hym.2.1
    skip
    rw [hcm] at hnx
    have hvl2 := fun W => valueLess_any ⟨xk, xn, xs⟩ ⟨yk, yn, ys⟩ W hxs hym.2.2
    have HVl := hideP (show ∀ W, Calls Tryz.prog 41 #[.agg #[.int .i64 xk, .int .i64 xn, .string xs], .agg #[.int .i64 yk, .int .i64 yn, .string ys]] W fun e w' => e = .returned (.bool (decide (CM.ord ⟨xk, xn, xs⟩ ⟨yk, yn, ys⟩ < 0))) ∧ Fr W w' from hvl2)
    have hcs : (CM.ord ⟨xk, xn, xs⟩ ⟨yk, yn, ys⟩ < 0 ↔ CM.ord ⟨xk, xn, xs⟩ ⟨yk, yn, ys⟩ = -1) := by omega
    clear hvl2 hcm hcr hy hym 
    generalize CM.ord ⟨xk, xn, xs⟩ ⟨yk, yn, ys⟩ = od at *
    go_wp2_with fail
    refine (HVl.out _).mono ?_
    rintro _ w3 ⟨rfl, f3⟩
    replace FB := hideP (FB.out.trans f3)
    replace H3 := hideP (H3.out.fr f3)
    replace H4 := hideP (H4.out.fr f3)
    replace H7 := hideP (H7.out.fr f3)
    replace HX := hideP (HX.out.fr f3)
    replace HN2 := hideP (own_fr HN2.out f3)
    clear f3 a0 x0 x1 x2 z0 z1 z2 u0 u1 u2 HVl
    have a0 : w3.cell? ⟨w.heap.size, 0, none⟩ = some (.int .i64 3) := H3.out.cell 0 rfl
    have x0 : w3.cell? ⟨X, 0, none⟩ = some (.int .i64 xk) := HX.out.cell 0 rfl
    have x1 : w3.cell? ⟨X, 1, none⟩ = some (.int .i64 xn) := HX.out.cell 1 rfl
    have x2 : w3.cell? ⟨X, 2, none⟩ = some (.string xs) := HX.out.cell 2 rfl
    have z0 : w3.cell? ⟨w.heap.size + 1 + 1, 0, none⟩ = some (.int .i64 yk) := H7.out.cell 0 rfl
    have z1 : w3.cell? ⟨w.heap.size + 1 + 1, 1, none⟩ = some (.int .i64 yn) := H7.out.cell 1 rfl
    have z2 : w3.cell? ⟨w.heap.size + 1 + 1, 2, none⟩ = some (.string ys) := H7.out.cell 2 rfl
    have u0 := H7.out.frozen 0
    have u1 := H7.out.frozen 1
    have u2 := H7.out.frozen 2
    by_cases hod : od < 0
    ·
     have HOv := hideP (hnx.trans (if_pos (hcs.1 hod)))
     clear hnx hcs
     go_wp2_with fail
     go_roundw
     case rel => exact ⟨i + 1, by go_num, by omega, by first | (rw [HSt.out]; done) | (rw [HSt.out]; first | rfl | (simp; done) | (congr 1; simp)), by rw [HSt.out]; exact own_put3 HN2.out H7.out (by decide) _ _ _, H3.out.oput3 (b := w.heap.size + 1 + 1) (by omega) _ _ _, H4.out.oput3 (b := w.heap.size + 1 + 1) (by omega) _ _ _, by rw [HSt.out, HOv.out]; exact H7.out.put3 _ _ _, FB.out.put3 (w.heap.size + 1 + 1) (by omega) _ _ _⟩
     case measure => simp [intOf]; omega
    ·
     have HOv := hideP (hnx.trans (if_neg (fun h => hod (hcs.2 h))))
     clear hnx hcs
     go_wp2_with fail
     go_roundw
     case rel => exact ⟨i + 1, by go_num, by omega, by first | (rw [HSt.out]; done) | (rw [HSt.out]; first | rfl | (simp; done) | (congr 1; simp)), by rw [HSt.out]; exact HN2.out, H3.out, H4.out, by rw [HSt.out, HOv.out]; exact H7.out, FB.out⟩
     case measure => simp [intOf]; omega)
  obtain rfl : i = ls.length := by omega
  rw [List.take_length] at hown h7 hvl hVm hVk  ⊢
  generalize BG.vls ls C = V at *
  have H3 := hideP h3
  have H4 := hideP h4
  have H7 := hideP h7
  have HO := hideP hown
  have HF := hideP hfr
  have a0 := h3.cell 0 rfl
  clear h3 h4 h7 hown hfr
  obtain ⟨⟨yk, yn, ys⟩, hy⟩ : ∃ y, (BG.fO (-1) (V)) = y := ⟨_, rfl⟩
  rw [hy] at H7 HK
  have z0 : wr.cell? ⟨w.heap.size + 1 + 1, 0, none⟩ = some (.int .i64 yk) := H7.out.cell 0 rfl
  have z1 : wr.cell? ⟨w.heap.size + 1 + 1, 1, none⟩ = some (.int .i64 yn) := H7.out.cell 1 rfl
  have z2 : wr.cell? ⟨w.heap.size + 1 + 1, 2, none⟩ = some (.string ys) := H7.out.cell 2 rfl
  clear hy
  have p0 := H4.out.cell 0 rfl
  have p1 := H4.out.cell 1 rfl
  have p2 := H4.out.cell 2 rfl
  have y0 := H4.out.frozen 0
  have y1 := H4.out.frozen 1
  have y2 := H4.out.frozen 2
  go_wp2_with fail
  have N4 := H4.out.put3 (.int .i64 (yk)) (.int .i64 (yn)) (.string ys)
  have r0 := N4.cell 0 rfl
  have r1 := N4.cell 1 rfl
  have r2 := N4.cell 2 rfl
  unfold put3 at r0 r1 r2
  refine bodyPost_ret (v := .tuple #[.agg #[.int .i64 (yk), .int .i64 (yn), .string ys], .int .i64 (0)]) ?_ rfl ⟨by rw [HK.out]; rfl, HF.out.put3 (w.heap.size + 1) (by omega) _ _ _⟩
  simp [results, Tryz.results57, go_sem, r0, r1, r2]
theorem toldOf_4 (v : Value) (ls : List (List VM.Vl)) (C : Nat) (w : World) (hr : IsRR w v ls) (hin : ∀ r ∈ ls, C < r.length) (hch : ∀ r ∈ ls, ∀ x ∈ r, VM.chk x = 0) (hok : ∀ r ∈ ls, ∀ x ∈ r, WH.Ok x.n) (hsz : ∀ r ∈ ls, ∀ x ∈ r, x.s.size ≤ maxLen) (hl : ls.length ≤ 40) :
  Calls Tryz.prog 57 #[v, .agg #[.int .i64 4, .int .i64 (C : Int)]] w fun e w' => e = .returned (exV (BG.tel ls ⟨4, (C : Int)⟩)) ∧ Fr w w' := by
 have HK : Hid (BG.tel ls ⟨4, (C : Int)⟩ = .ok (BG.fO 1 (BG.vls ls C))) := by
  unfold Hid BG.tel
  rw [if_neg (by simp <;> omega)]
  simp only [Int.toNat_natCast]
  by_cases h0 : BG.vls ls C = []
  · simp [h0, BG.fO] <;> rfl
  · simp [h0, BG.fO] <;> rfl
 obtain ⟨i0, hi0, hz0, hz1, hz2⟩ := info_parts Tryz.infoI64
 have HVm := hideP (fun (i : Nat) x (hx : x ∈ BG.vls (ls.take i) C) => BG.vls_mem (BG.vls_take hx) hin)
 have HIn := hideP hin
 have HCh := hideP hch
 have HOk := hideP hok
 have HSz := hideP hsz
 obtain ⟨a, c, rfl⟩ := hr.slice
 obtain ⟨qs, hq, _, hc, hcell, hrow⟩ := hr.at
 have HCe := hideP hcell
 have HRo := hideP hrow
 clear hcell hrow hr hin hch hok hsz hc
 generalize BG.tel ls ⟨4, (C : Int)⟩ = R at *
 have HG3 := hideP (Blk.new w #[.int .i64 4, .int .i64 (C : Int)] 66)
 have HG4 := hideP (Blk.new (w.alloc (.cells #[.int .i64 4, .int .i64 (C : Int)] 66)) #[.int .i64 0, .int .i64 0, .string ⟨#[]⟩] 56)
 have HG3b := hideP (HG3.out.old (.cells #[.int .i64 0, .int .i64 0, .string ⟨#[]⟩] 56))
 have F2 := hideP (((Fr.refl w).alloc (.cells #[.int .i64 4, .int .i64 (C : Int)] 66)).alloc (.cells #[.int .i64 0, .int .i64 0, .string ⟨#[]⟩] 56))
 simp only [World.size_alloc] at HG4
 obtain ⟨W2, hW2⟩ : ∃ x, (w.alloc (.cells #[.int .i64 4, .int .i64 (C : Int)] 66)).alloc (.cells #[.int .i64 0, .int .i64 0, .string ⟨#[]⟩] 56) = x := ⟨_, rfl⟩
 have hs2 : W2.heap.size = w.heap.size + 1 + 1 := by rw [← hW2]; simp
 rw [hW2] at HG3b HG4 F2
 have a0 : W2.cell? ⟨w.heap.size, 0, none⟩ = some (.int .i64 4) := HG3b.out.cell 0 rfl
 have a1 : W2.cell? ⟨w.heap.size, 1, none⟩ = some (.int .i64 (C : Int)) := HG3b.out.cell 1 rfl
 have H3a := hideP (HG3b.out.old (.cells #[.int .i64 0, .int .i64 0, .string ⟨#[]⟩] 56))
 have H4a := hideP (HG4.out.old (.cells #[.int .i64 0, .int .i64 0, .string ⟨#[]⟩] 56))
 have H7a := hideP (Blk.new W2 #[.int .i64 0, .int .i64 0, .string ⟨#[]⟩] 56)
 rw [hs2] at H7a
 have F3 := hideP (F2.out.alloc (.cells #[.int .i64 0, .int .i64 0, .string ⟨#[]⟩] 56))
 go_enter Tryz.func57, Tryz.ntmps57
 go_wp2_with fail
 clear a0 a1
 go_loopw [6, 8, 9, 10] (fun mv iv kv _ wr => ∃ i : Nat, kv = .int .i64 i ∧ i ≤ ls.length ∧ mv = .int .i64 ((BG.vls (ls.take i) C).length : Int) ∧ wr.ownsRow w.heap.size 2 1 iv (BG.vls (ls.take i) C).length (flat cdZ ((BG.vls (ls.take i) C).map (·.n))) ∧ Blk wr w.heap.size #[.int .i64 4, .int .i64 (C : Int)] 66 ∧ Blk wr (w.heap.size + 1) #[.int .i64 0, .int .i64 0, .string ⟨#[]⟩] 56 ∧ Blk wr (w.heap.size + 1 + 1) (vA (BG.fO 1 (BG.vls (ls.take i) C))) 56 ∧ Fr w wr) (fun _ _ kv _ _ => ls.length - (intOf kv).toNat)
 case atStart => exact ⟨0, rfl, Nat.zero_le _, rfl, World.ownsRow_nil _ _ _ _, H3a.out, H4a.out, H7a.out, F3.out⟩
 case round =>
  clear H3a H4a H7a F3 HG3b HG4 F2 hW2 hs2
  obtain ⟨i, rfl, hi, rfl, hown, h3, h4, h7, hfr⟩ := hrel
  obtain ⟨fa, fc, rfl⟩ := own_slice hown
  have hvl := BG.vls_len ls C i
  have hsz := hfr.size
  have hVm : ∀ y ∈ BG.vls (ls.take i) C, y.k ≠ 0 ∧ VM.chk y = 0 ∧ y.s.size ≤ maxLen := fun y hy => by
   obtain ⟨r, hr, hx⟩ := HVm.out i y hy
   exact ⟨BG.vls_k hy, HCh.out r hr y hx, HSz.out r hr y hx⟩
  have hVk : ∀ y ∈ BG.vls (ls.take i) C, WH.Ok y.n := fun y hy => by
   obtain ⟨r, hr, hx⟩ := HVm.out i y hy
   exact HOk.out r hr y hx
  by_cases hlt : i < ls.length
  ·
   have hlt' : (i : Int) < (ls.length : Int) := by omega
   have hi40 : i < 40 := by omega
   obtain ⟨b, o, rfl, hbb, c0⟩ := HCe.out i (by omega)
   obtain ⟨h1, h2⟩ := HRo.out i (by omega) hlt
   have hst := BG.vls_step ls C i hlt
   have hCr := HIn.out ls[i] (List.getElem_mem hlt)
   have hlm : ls[i] ∈ ls := List.getElem_mem hlt
   have hvo := BG.vls_of (C := C) hlm
   generalize ls[i] = r at *
   obtain ⟨q, hqq⟩ : ∃ q, (qs[i]'(by omega)) = q := ⟨_, rfl⟩
   rw [hqq] at h1 h2 c0
   obtain ⟨qa, qn, qc⟩ := q
   simp only [Sq.v] at h1 h2 c0
   obtain ⟨ra, rc, er, _, hrs⟩ := h1
   simp only [Value.slice.injEq] at er
   obtain ⟨rfl, rfl, rfl⟩ := er
   obtain ⟨rb, ro, rfl, hrb, hrat⟩ : ∃ b o, qa = some ⟨b, o, none⟩ ∧ b < w.heap.size ∧ At cdV w b o r := by
    rcases hrs with h | h
    · rw [h] at hCr; simp at hCr
    · exact h
   obtain ⟨d0, d1, d2⟩ := (hrat.fr hrb hfr).v3 C hCr
   have c0' := (Below.cell hfr (World.block_lt_of_cell? _ _ c0)).trans c0
   have hgd : r.getD C BG.nulV = r[C] := by rw [List.getD_eq_getElem?_getD, List.getElem?_eq_getElem hCr]; rfl
   rw [hgd] at hst hvo
   have hxm : r[C] ∈ r := List.getElem_mem hCr
   have hxs := HSz.out r hlm _ hxm
   have hxc := HCh.out r hlm _ hxm
   generalize r[C] = x at *
   obtain ⟨xk, xn, xs⟩ := x
   simp only at d0 d1 d2 hst hvo hxs
   have hC' : (C : Int) < (r.length : Int) := by omega
   have e1 := h3.cell 1 rfl
   have HS := hideP (show wr.cell? ⟨b, o + i, none⟩ = some (.slice (some ⟨rb, ro, none⟩) r.length qc) ∧ wr.cell? ⟨w.heap.size, 1, none⟩ = some (.int .i64 (C : Int)) ∧ wr.cell? ⟨rb, ro + C * 3, none⟩ = some (.int .i64 xk) ∧ wr.cell? ⟨rb, ro + C * 3 + 1, none⟩ = some (.int .i64 xn) ∧ wr.cell? ⟨rb, ro + C * 3 + 2, none⟩ = some (.string xs) from ⟨c0', e1, d0, d1, d2⟩)
   have hz := Fr.drew (Fr.refl wr)
   have hrl : r.length = r.length := rfl
   generalize hrn : r.length = rn at *
   generalize BG.vls (ls.take i) C = V at *
   clear c0' e1 d0 d1 d2 c0 hrat hrs hqq hgd
   go_upto_region 9 with fail
   go_region_held3 (fun W => W.cell? ⟨b, o + i, none⟩ = some (.slice (some ⟨rb, ro, none⟩) rn qc) ∧ W.cell? ⟨w.heap.size, 1, none⟩ = some (.int .i64 (C : Int)) ∧ W.cell? ⟨rb, ro + C * 3, none⟩ = some (.int .i64 xk) ∧ W.cell? ⟨rb, ro + C * 3 + 1, none⟩ = some (.int .i64 xn) ∧ W.cell? ⟨rb, ro + C * 3 + 2, none⟩ = some (.string xs)) (first | exact HS.out | exact c5_after hz HS.out | exact c5_after (hz.alloc _) HS.out | exact c5_after ((hz.alloc _).put3 _ (Nat.le_refl _) _ _ _) HS.out) (first | fail)
   all_goals (
    obtain ⟨W9, hW9⟩ : ∃ W9, (wr.alloc (.cells #[.int .i64 xk, .int .i64 xn, .string xs] 56)).drew = W9 := ⟨_, rfl⟩
    have F9 : Fr wr W9 := by rw [← hW9]; exact Fr.drew ((Fr.refl _).alloc _)
    have hX : Blk W9 wr.heap.size (vA ⟨xk, xn, xs⟩) 56 := by rw [← hW9]; exact (Blk.new wr _ _).fr (Fr.drew (Fr.refl _))
    rw [hW9]
    clear hW9 hz HS
    have H3 := hideP (h3.fr F9)
    have H4 := hideP (h4.fr F9)
    have H7 := hideP (h7.fr F9)
    have HX := hideP hX
    have HO := hideP (own_fr hown F9)
    have HF := hideP (hfr.trans F9)
    have hX7 : w.heap.size + 1 + 1 < wr.heap.size := h7.lt
    clear F9 hX h3 h4 h7 hown hfr
    rename_i held
    clear held
    obtain ⟨X, hXe⟩ : ∃ X, wr.heap.size = X := ⟨_, rfl⟩
    rw [hXe] at HX hX7 hsz ⊢
    clear hXe
    have a0 : W9.cell? ⟨w.heap.size, 0, none⟩ = some (.int .i64 4) := H3.out.cell 0 rfl
    have x0 : W9.cell? ⟨X, 0, none⟩ = some (.int .i64 xk) := HX.out.cell 0 rfl
    have x1 : W9.cell? ⟨X, 1, none⟩ = some (.int .i64 xn) := HX.out.cell 1 rfl
    by_cases hk0 : xk = 0
    ·
     have HSt := hideP (hst.trans (by rw [if_pos hk0, List.append_nil]))
     have HOv : Hid ((BG.fO 1 (V)) = (BG.fO 1 (V))) := rfl
     skip
     clear hst
     go_wp2_with fail
     go_roundw
     case rel => exact ⟨i + 1, by go_num, by omega, by first | (rw [HSt.out]; done) | (rw [HSt.out]; first | rfl | (simp; done) | (congr 1; simp)), by rw [HSt.out]; exact HO.out, H3.out, H4.out, by rw [HSt.out, HOv.out]; exact H7.out, HF.out⟩
     case measure => simp [intOf]; omega
    have HSt := hideP (hst.trans (by rw [if_neg hk0]))
    clear hst
    clear hvo
    have HLit := hideP (lit_one cdZ W9 xn 2)
    have HO1 := hideP (own_fr HO.out ((Fr.refl W9).alloc (.cells #[.int .i64 xn] 2)))
    have hsz9 : w.heap.size ≤ W9.heap.size := HF.out.size
    go_wp2_with (at_builtin; refine wpList_append_L cdZ rfl _ _ 109 2 i0 _ 8 rfl Tryz.underlying109 hi0 hz0 hz1 hz2 rfl w.heap.size _ V.length _ rfl HO1.out (.slice (some ⟨W9.heap.size, 0, none⟩) 1 1) [xn] rfl HLit.out ?c3 ?c4 ?c5 ?_)
    case c3 => unfold maxLen; first | omega | (simp <;> omega)
    case c4 => first | omega | (simp <;> omega)
    case c5 => first | omega | (simp <;> omega)
    intro v2 wB own2 gr2
    have HN2 := hideP (show wB.ownsRow w.heap.size 2 1 v2 (V ++ [(⟨xk, xn, xs⟩ : VM.Vl)]).length (flat cdZ ((V ++ [(⟨xk, xn, xs⟩ : VM.Vl)]).map (·.n))) by rw [List.map_append, List.length_append]; exact own2)
    have FB := hideP (show Fr w wB from Below.grown (HF.out.alloc _) gr2 (by simp <;> omega) (own_base HO1.out))
    replace H3 := hideP ((H3.out.old (.cells #[.int .i64 xn] 2)).gro HO1.out (by decide) gr2)
    replace H4 := hideP ((H4.out.old (.cells #[.int .i64 xn] 2)).gro HO1.out (by decide) gr2)
    replace H7 := hideP ((H7.out.old (.cells #[.int .i64 xn] 2)).gro HO1.out (by decide) gr2)
    replace HX := hideP ((HX.out.old (.cells #[.int .i64 xn] 2)).gro HO1.out (by decide) gr2)
    clear own2 gr2 HO HO1 HLit HF a0 x0 x1 hsz9
    have a0 : wB.cell? ⟨w.heap.size, 0, none⟩ = some (.int .i64 4) := H3.out.cell 0 rfl
    have x0 : wB.cell? ⟨X, 0, none⟩ = some (.int .i64 xk) := HX.out.cell 0 rfl
    have x1 : wB.cell? ⟨X, 1, none⟩ = some (.int .i64 xn) := HX.out.cell 1 rfl
    have x2 : wB.cell? ⟨X, 2, none⟩ = some (.string xs) := HX.out.cell 2 rfl
    obtain ⟨⟨yk, yn, ys⟩, hy⟩ : ∃ y, (BG.fO 1 (V)) = y := ⟨_, rfl⟩
    have HY := hideP hy
    rw [hy] at H7
    have z0 : wB.cell? ⟨w.heap.size + 1 + 1, 0, none⟩ = some (.int .i64 yk) := H7.out.cell 0 rfl
    have z1 : wB.cell? ⟨w.heap.size + 1 + 1, 1, none⟩ = some (.int .i64 yn) := H7.out.cell 1 rfl
    have z2 : wB.cell? ⟨w.heap.size + 1 + 1, 2, none⟩ = some (.string ys) := H7.out.cell 2 rfl
    have u0 := H7.out.frozen 0
    have u1 := H7.out.frozen 1
    have u2 := H7.out.frozen 2
    by_cases hV0 : V = []
    ·
     subst hV0
     have hyk : yk = 0 := by
      have : BG.nulV = (⟨yk, yn, ys⟩ : VM.Vl) := hy
      injection this with e
      exact e.symm
     have HOv : Hid ((BG.fO 1 ([] ++ [(⟨xk, xn, xs⟩ : VM.Vl)])) = ⟨xk, xn, xs⟩) := by
      exact BG.fO_one _ _
     clear hy
     go_wp2_with fail
     go_roundw
     case rel => exact ⟨i + 1, by go_num, by omega, by first | (rw [HSt.out]; done) | (rw [HSt.out]; first | rfl | (simp; done) | (congr 1; simp)), by rw [HSt.out]; exact own_put3 HN2.out H7.out (by decide) _ _ _, H3.out.oput3 (b := w.heap.size + 1 + 1) (by omega) _ _ _, H4.out.oput3 (b := w.heap.size + 1 + 1) (by omega) _ _ _, by rw [HSt.out, HOv.out]; exact H7.out.put3 _ _ _, FB.out.put3 (w.heap.size + 1 + 1) (by omega) _ _ _⟩
     case measure => simp [intOf]; omega
    have hym : yk ≠ 0 ∧ VM.chk ⟨yk, yn, ys⟩ = 0 ∧ ys.size ≤ maxLen := by
     have := hVm ⟨yk, yn, ys⟩ (by rw [← hy]; exact BG.fO_in _ hV0)
     exact this
    have hy0 : (yk == 0) = false := beq_false_of_ne hym.1
    have hy1 : ¬ yk = 0 := hym.1
    have hnx := BG.fO_next 1 hV0 ⟨xk, xn, xs⟩
    rw [hy] at hnx
    obtain ⟨hcm, hcr⟩ := BG.cmp_of (a := ⟨xk, xn, xs⟩) (b := ⟨yk, yn, ys⟩) hxc hym.2.1
    have han := SM.ord_anti ⟨xk, xn, xs⟩ ⟨yk, yn, ys⟩
    rw [hcm] at hnx
    have hvl2 := fun W => valueLess_any ⟨yk, yn, ys⟩ ⟨xk, xn, xs⟩ W hym.2.2 hxs
    have HVl := hideP (show ∀ W, Calls Tryz.prog 41 #[.agg #[.int .i64 yk, .int .i64 yn, .string ys], .agg #[.int .i64 xk, .int .i64 xn, .string xs]] W fun e w' => e = .returned (.bool (decide (CM.ord ⟨yk, yn, ys⟩ ⟨xk, xn, xs⟩ < 0))) ∧ Fr W w' from hvl2)
    have hcs : (CM.ord ⟨yk, yn, ys⟩ ⟨xk, xn, xs⟩ < 0 ↔ CM.ord ⟨xk, xn, xs⟩ ⟨yk, yn, ys⟩ = 1) := by omega
    clear hvl2 hcm hcr hy hym han
    generalize CM.ord ⟨yk, yn, ys⟩ ⟨xk, xn, xs⟩ = od at *
    go_wp2_with fail
    refine (HVl.out _).mono ?_
    rintro _ w3 ⟨rfl, f3⟩
    replace FB := hideP (FB.out.trans f3)
    replace H3 := hideP (H3.out.fr f3)
    replace H4 := hideP (H4.out.fr f3)
    replace H7 := hideP (H7.out.fr f3)
    replace HX := hideP (HX.out.fr f3)
    replace HN2 := hideP (own_fr HN2.out f3)
    clear f3 a0 x0 x1 x2 z0 z1 z2 u0 u1 u2 HVl
    have a0 : w3.cell? ⟨w.heap.size, 0, none⟩ = some (.int .i64 4) := H3.out.cell 0 rfl
    have x0 : w3.cell? ⟨X, 0, none⟩ = some (.int .i64 xk) := HX.out.cell 0 rfl
    have x1 : w3.cell? ⟨X, 1, none⟩ = some (.int .i64 xn) := HX.out.cell 1 rfl
    have x2 : w3.cell? ⟨X, 2, none⟩ = some (.string xs) := HX.out.cell 2 rfl
    have z0 : w3.cell? ⟨w.heap.size + 1 + 1, 0, none⟩ = some (.int .i64 yk) := H7.out.cell 0 rfl
    have z1 : w3.cell? ⟨w.heap.size + 1 + 1, 1, none⟩ = some (.int .i64 yn) := H7.out.cell 1 rfl
    have z2 : w3.cell? ⟨w.heap.size + 1 + 1, 2, none⟩ = some (.string ys) := H7.out.cell 2 rfl
    have u0 := H7.out.frozen 0
    have u1 := H7.out.frozen 1
    have u2 := H7.out.frozen 2
    by_cases hod : od < 0
    ·
     have HOv := hideP (hnx.trans (if_pos (hcs.1 hod)))
     clear hnx hcs
     go_wp2_with fail
     go_roundw
     case rel => exact ⟨i + 1, by go_num, by omega, by first | (rw [HSt.out]; done) | (rw [HSt.out]; first | rfl | (simp; done) | (congr 1; simp)), by rw [HSt.out]; exact own_put3 HN2.out H7.out (by decide) _ _ _, H3.out.oput3 (b := w.heap.size + 1 + 1) (by omega) _ _ _, H4.out.oput3 (b := w.heap.size + 1 + 1) (by omega) _ _ _, by rw [HSt.out, HOv.out]; exact H7.out.put3 _ _ _, FB.out.put3 (w.heap.size + 1 + 1) (by omega) _ _ _⟩
     case measure => simp [intOf]; omega
    ·
     have HOv := hideP (hnx.trans (if_neg (fun h => hod (hcs.2 h))))
     clear hnx hcs
     go_wp2_with fail
     go_roundw
     case rel => exact ⟨i + 1, by go_num, by omega, by first | (rw [HSt.out]; done) | (rw [HSt.out]; first | rfl | (simp; done) | (congr 1; simp)), by rw [HSt.out]; exact HN2.out, H3.out, H4.out, by rw [HSt.out, HOv.out]; exact H7.out, FB.out⟩
     case measure => simp [intOf]; omega)
  obtain rfl : i = ls.length := by omega
  rw [List.take_length] at hown h7 hvl hVm hVk  ⊢
  generalize BG.vls ls C = V at *
  have H3 := hideP h3
  have H4 := hideP h4
  have H7 := hideP h7
  have HO := hideP hown
  have HF := hideP hfr
  have a0 := h3.cell 0 rfl
  clear h3 h4 h7 hown hfr
  obtain ⟨⟨yk, yn, ys⟩, hy⟩ : ∃ y, (BG.fO 1 (V)) = y := ⟨_, rfl⟩
  rw [hy] at H7 HK
  have z0 : wr.cell? ⟨w.heap.size + 1 + 1, 0, none⟩ = some (.int .i64 yk) := H7.out.cell 0 rfl
  have z1 : wr.cell? ⟨w.heap.size + 1 + 1, 1, none⟩ = some (.int .i64 yn) := H7.out.cell 1 rfl
  have z2 : wr.cell? ⟨w.heap.size + 1 + 1, 2, none⟩ = some (.string ys) := H7.out.cell 2 rfl
  clear hy
  have p0 := H4.out.cell 0 rfl
  have p1 := H4.out.cell 1 rfl
  have p2 := H4.out.cell 2 rfl
  have y0 := H4.out.frozen 0
  have y1 := H4.out.frozen 1
  have y2 := H4.out.frozen 2
  go_wp2_with fail
  have N4 := H4.out.put3 (.int .i64 (yk)) (.int .i64 (yn)) (.string ys)
  have r0 := N4.cell 0 rfl
  have r1 := N4.cell 1 rfl
  have r2 := N4.cell 2 rfl
  unfold put3 at r0 r1 r2
  refine bodyPost_ret (v := .tuple #[.agg #[.int .i64 (yk), .int .i64 (yn), .string ys], .int .i64 (0)]) ?_ rfl ⟨by rw [HK.out]; rfl, HF.out.put3 (w.heap.size + 1) (by omega) _ _ _⟩
  simp [results, Tryz.results57, go_sem, r0, r1, r2]
theorem toldOf_neg (v : Value) (ls : List (List VM.Vl)) (col : Int) (w : World) (hr : IsRR w v ls) (hc : col < 0) (hl : ls.length ≤ 40) :
  Calls Tryz.prog 57 #[v, .agg #[.int .i64 1, .int .i64 col]] w fun e w' => e = .returned (exV (.ok ⟨1, (ls.length : Int), ⟨#[]⟩⟩)) ∧ Fr w w' := by
 obtain ⟨a, c, rfl⟩ := hr.slice
 clear hr
 have HG3 := hideP (Blk.new w #[.int .i64 1, .int .i64 col] 66)
 have HG4 := hideP (Blk.new (w.alloc (.cells #[.int .i64 1, .int .i64 col] 66)) #[.int .i64 0, .int .i64 0, .string ⟨#[]⟩] 56)
 have HG3b := hideP (HG3.out.old (.cells #[.int .i64 0, .int .i64 0, .string ⟨#[]⟩] 56))
 have F2 := hideP (((Fr.refl w).alloc (.cells #[.int .i64 1, .int .i64 col] 66)).alloc (.cells #[.int .i64 0, .int .i64 0, .string ⟨#[]⟩] 56))
 simp only [World.size_alloc] at HG4
 obtain ⟨W2, hW2⟩ : ∃ x, (w.alloc (.cells #[.int .i64 1, .int .i64 col] 66)).alloc (.cells #[.int .i64 0, .int .i64 0, .string ⟨#[]⟩] 56) = x := ⟨_, rfl⟩
 have hs2 : W2.heap.size = w.heap.size + 1 + 1 := by rw [← hW2]; simp
 rw [hW2] at HG3b HG4 F2
 have a0 : W2.cell? ⟨w.heap.size, 0, none⟩ = some (.int .i64 1) := HG3b.out.cell 0 rfl
 have a1 : W2.cell? ⟨w.heap.size, 1, none⟩ = some (.int .i64 col) := HG3b.out.cell 1 rfl
 have H4 := hideP HG4.out
 have HZ : Hid ((.ok ⟨1, (ls.length : Int), ⟨#[]⟩⟩ : Except Nat VM.Vl) = .ok ⟨1, (ls.length : Int), ⟨#[]⟩⟩) := rfl
 have a2 : W2.cell? ⟨w.heap.size + 1, 0, none⟩ = some (.int .i64 0) := HG4.out.cell 0 rfl
 have p0 := H4.out.cell 0 rfl
 have p1 := H4.out.cell 1 rfl
 have p2 := H4.out.cell 2 rfl
 have y0 := H4.out.frozen 0
 have y1 := H4.out.frozen 1
 have y2 := H4.out.frozen 2
 clear a2
 go_enter Tryz.func57, Tryz.ntmps57
 go_wp2_with fail
 have N4 := H4.out.put3 (.int .i64 (1)) (.int .i64 ((ls.length : Int))) (.string ⟨#[]⟩)
 have r0 := N4.cell 0 rfl
 have r1 := N4.cell 1 rfl
 have r2 := N4.cell 2 rfl
 unfold put3 at r0 r1 r2
 refine bodyPost_ret (v := .tuple #[.agg #[.int .i64 (1), .int .i64 ((ls.length : Int)), .string ⟨#[]⟩], .int .i64 (0)]) ?_ rfl ⟨rfl, F2.out.put3 (w.heap.size + 1) (by omega) _ _ _⟩
 simp [results, Tryz.results57, go_sem, r0, r1, r2]
theorem toldOf_nil (v : Value) (kind col : Int) (w : World) (hr : IsRR w v []) (hk1 : 1 ≤ kind) (hk4 : kind ≤ 4) (hc : ¬ (kind = 1 ∧ col < 0)) :
  Calls Tryz.prog 57 #[v, .agg #[.int .i64 kind, .int .i64 col]] w fun e w' => e = .returned (exV (BG.tel [] ⟨kind, col⟩)) ∧ Fr w w' := by
 obtain ⟨a, c, rfl⟩ := hr.slice
 have HK := hideP (show BG.tel [] ⟨kind, col⟩ = if kind = 1 then .ok ⟨1, 0, ⟨#[]⟩⟩ else .ok ⟨0, 0, ⟨#[]⟩⟩ by
  unfold BG.tel
  by_cases h1 : kind = 1
  ·
   by_cases h2 : col = -1
   · simp [h1, h2]
   · simp [h1, h2, BG.vls]
  · simp [h1, BG.vls, BG.nulV])
 generalize BG.tel [] ⟨kind, col⟩ = R at *
 simp only [List.length_nil]
 clear hr
 have HG3 := hideP (Blk.new w #[.int .i64 kind, .int .i64 col] 66)
 have HG4 := hideP (Blk.new (w.alloc (.cells #[.int .i64 kind, .int .i64 col] 66)) #[.int .i64 0, .int .i64 0, .string ⟨#[]⟩] 56)
 have HG3b := hideP (HG3.out.old (.cells #[.int .i64 0, .int .i64 0, .string ⟨#[]⟩] 56))
 have F2 := hideP (((Fr.refl w).alloc (.cells #[.int .i64 kind, .int .i64 col] 66)).alloc (.cells #[.int .i64 0, .int .i64 0, .string ⟨#[]⟩] 56))
 simp only [World.size_alloc] at HG4
 obtain ⟨W2, hW2⟩ : ∃ x, (w.alloc (.cells #[.int .i64 kind, .int .i64 col] 66)).alloc (.cells #[.int .i64 0, .int .i64 0, .string ⟨#[]⟩] 56) = x := ⟨_, rfl⟩
 have hs2 : W2.heap.size = w.heap.size + 1 + 1 := by rw [← hW2]; simp
 rw [hW2] at HG3b HG4 F2
 have a0 : W2.cell? ⟨w.heap.size, 0, none⟩ = some (.int .i64 kind) := HG3b.out.cell 0 rfl
 have a1 : W2.cell? ⟨w.heap.size, 1, none⟩ = some (.int .i64 col) := HG3b.out.cell 1 rfl
 have H3a := hideP (HG3b.out.old (.cells #[.int .i64 0, .int .i64 0, .string ⟨#[]⟩] 56))
 have H4a := hideP (HG4.out.old (.cells #[.int .i64 0, .int .i64 0, .string ⟨#[]⟩] 56))
 have H7a := hideP (Blk.new W2 #[.int .i64 0, .int .i64 0, .string ⟨#[]⟩] 56)
 rw [hs2] at H7a
 have F3 := hideP (F2.out.alloc (.cells #[.int .i64 0, .int .i64 0, .string ⟨#[]⟩] 56))
 rcases (show (kind = 1 ∧ ¬ col < 0) ∨ kind = 2 ∨ kind = 3 ∨ kind = 4 by
  by_cases h1 : kind = 1
  · exact .inl ⟨h1, fun h => hc ⟨h1, h⟩⟩
  · omega) with ⟨rfl, hcol⟩ | rfl | rfl | rfl
 ·
  have HZ := hideP (HK.out.trans (if_pos rfl))
  clear hc hk1 hk4
  go_enter Tryz.func57, Tryz.ntmps57
  go_wp2_with fail
  clear a0 a1
  go_loopw [6, 8, 9, 10] (fun mv iv kv _ wr => kv = .int .i64 0 ∧ mv = .int .i64 0 ∧ iv = .slice none 0 0 ∧ Blk wr w.heap.size #[.int .i64 1, .int .i64 col] 66 ∧ Blk wr (w.heap.size + 1) #[.int .i64 0, .int .i64 0, .string ⟨#[]⟩] 56 ∧ Blk wr (w.heap.size + 1 + 1) #[.int .i64 0, .int .i64 0, .string ⟨#[]⟩] 56 ∧ Fr w wr) (fun _ _ _ _ _ => 0)
  case atStart => exact ⟨rfl, rfl, rfl, H3a.out, H4a.out, H7a.out, F3.out⟩
  case round =>
   clear H3a H4a H7a F3 HG3b HG4 F2 hW2 hs2
   obtain ⟨rfl, rfl, rfl, h3, h4, h7, hfr⟩ := hrel
   have H4 := hideP h4
   have HF := hideP hfr
   have a0 := h3.cell 0 rfl
   clear h3 h4 h7 hfr
   have p0 := H4.out.cell 0 rfl
   have p1 := H4.out.cell 1 rfl
   have p2 := H4.out.cell 2 rfl
   have y0 := H4.out.frozen 0
   have y1 := H4.out.frozen 1
   have y2 := H4.out.frozen 2
   go_wp2_with fail
   have N4 := H4.out.put3 (.int .i64 (1)) (.int .i64 (0)) (.string ⟨#[]⟩)
   have r0 := N4.cell 0 rfl
   have r1 := N4.cell 1 rfl
   have r2 := N4.cell 2 rfl
   unfold put3 at r0 r1 r2
   refine bodyPost_ret (v := .tuple #[.agg #[.int .i64 (1), .int .i64 (0), .string ⟨#[]⟩], .int .i64 (0)]) ?_ rfl ⟨by rw [HZ.out]; rfl, HF.out.put3 (w.heap.size + 1) (by omega) _ _ _⟩
   simp [results, Tryz.results57, go_sem, r0, r1, r2]
 all_goals (
  have HZ := hideP (HK.out.trans (if_neg (by decide)))
  clear hc hk1 hk4
  go_enter Tryz.func57, Tryz.ntmps57
  go_wp2_with fail
  have HA3 := hideP a0
  clear a0 a1
  go_loopw [6, 8, 9, 10] (fun mv iv kv _ wr => kv = .int .i64 0 ∧ mv = .int .i64 0 ∧ iv = .slice none 0 0 ∧ Blk wr w.heap.size _ 66 ∧ Blk wr (w.heap.size + 1) #[.int .i64 0, .int .i64 0, .string ⟨#[]⟩] 56 ∧ Blk wr (w.heap.size + 1 + 1) #[.int .i64 0, .int .i64 0, .string ⟨#[]⟩] 56 ∧ Fr w wr) (fun _ _ _ _ _ => 0)
  case atStart => exact ⟨rfl, rfl, rfl, H3a.out, H4a.out, H7a.out, F3.out⟩
  case round =>
   clear H3a H4a H7a F3 HG3b HG4 F2 hW2 hs2 HA3
   obtain ⟨rfl, rfl, rfl, h3, h4, h7, hfr⟩ := hrel
   have H4 := hideP h4
   have HF := hideP hfr
   have a0 := h3.cell 0 rfl
   have z0 := h7.cell 0 rfl
   have z1 := h7.cell 1 rfl
   have z2 := h7.cell 2 rfl
   clear h3 h4 h7 hfr
   have p0 := H4.out.cell 0 rfl
   have p1 := H4.out.cell 1 rfl
   have p2 := H4.out.cell 2 rfl
   have y0 := H4.out.frozen 0
   have y1 := H4.out.frozen 1
   have y2 := H4.out.frozen 2
   go_wp2_with fail
   have N4 := H4.out.put3 (.int .i64 (0)) (.int .i64 (0)) (.string ⟨#[]⟩)
   have r0 := N4.cell 0 rfl
   have r1 := N4.cell 1 rfl
   have r2 := N4.cell 2 rfl
   unfold put3 at r0 r1 r2
   refine bodyPost_ret (v := .tuple #[.agg #[.int .i64 (0), .int .i64 (0), .string ⟨#[]⟩], .int .i64 (0)]) ?_ rfl ⟨by rw [HZ.out]; rfl, HF.out.put3 (w.heap.size + 1) (by omega) _ _ _⟩
   simp [results, Tryz.results57, go_sem, r0, r1, r2])
theorem toldOf_any (v : Value) (ls : List (List VM.Vl)) (g : BG.Ag) (w : World) (hr : IsRR w v ls) (hk : BG.kindOk g = true) (hin : (g.kind = 1 ∧ g.col = -1) ∨ ∀ r ∈ ls, 0 ≤ g.col ∧ g.col < (r.length : Int)) (hch : ∀ r ∈ ls, ∀ x ∈ r, VM.chk x = 0) (hok : ∀ r ∈ ls, ∀ x ∈ r, WH.Ok x.n) (hsz : ∀ r ∈ ls, ∀ x ∈ r, x.s.size ≤ maxLen) (hl : ls.length ≤ 40) :
  Calls Tryz.prog 57 #[v, .agg #[.int .i64 g.kind, .int .i64 g.col]] w fun e w' => e = .returned (exV (BG.tel ls g)) ∧ Fr w w' := by
 obtain ⟨kind, col⟩ := g
 simp only at *
 have hk2 : 1 ≤ kind ∧ kind ≤ 4 := by simpa [BG.kindOk] using hk
 by_cases h1 : kind = 1 ∧ col < 0
 ·
  have e : BG.tel ls ⟨kind, col⟩ = .ok ⟨1, (ls.length : Int), ⟨#[]⟩⟩ := by
   unfold BG.tel
   by_cases h2 : col = -1
   · rw [if_pos ⟨h2, h1.1⟩]
   ·
    rw [if_neg (fun h => h2 h.1), if_pos h1.1]
    cases ls with
    | nil => rfl
    | cons r t =>
     rcases hin with h | h
     · exact absurd h.2 h2
     ·
      have := (h r (by simp)).1
      omega
  rw [e, h1.1]
  exact toldOf_neg v ls col w hr h1.2 hl
 by_cases h0 : ls = []
 ·
  subst h0
  exact toldOf_nil v kind col w hr hk2.1 hk2.2 h1
 have hin2 : ∀ r ∈ ls, 0 ≤ col ∧ col < (r.length : Int) := by
  rcases hin with h | h
  · exact absurd ⟨h.1, by omega⟩ h1
  · exact h
 obtain ⟨C, rfl⟩ : ∃ C : Nat, col = (C : Int) := by
  obtain ⟨r, t, rfl⟩ := List.exists_cons_of_ne_nil h0
  have := (hin2 r (by simp)).1
  exact ⟨col.toNat, by omega⟩
 have hin3 : ∀ r ∈ ls, C < r.length := fun r hr => by have := (hin2 r hr).2; omega
 rcases (show kind = 1 ∨ kind = 2 ∨ kind = 3 ∨ kind = 4 by omega) with rfl | rfl | rfl | rfl
 · exact toldOf_1 v ls C w hr hin3 hch hok hsz hl
 · exact toldOf_2 v ls C w hr hin3 hch hok hsz hl
 · exact toldOf_3 v ls C w hr hin3 hch hok hsz hl
 · exact toldOf_4 v ls C w hr hin3 hch hok hsz hl
end Go.Proofs.YtbcfdhimngoplaaGreatDoor
