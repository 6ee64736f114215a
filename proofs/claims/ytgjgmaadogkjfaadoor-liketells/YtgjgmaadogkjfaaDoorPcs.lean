/-
  The pieces of a text: the function that hands out an iterator over them, and the iterator.
-/
import Derived.Test.YtgjgmaadogkjfaaDoorDecM
namespace Go.Proofs.YtgjgmaadogkjfaaDoor
open Go.ChangeShapes Go.WideShapes Go.ChangeAt Go.RowKit Go.Shelf
set_option linter.unusedVariables false
attribute [local go_sem] Oper.semAt_some

/-- the two tables of Go's decoder are as they are laid -/
def Tb (w : World) : Prop := Lib.Utf8Tabs 0 1 w
theorem Tb.below {n : Nat} {w w' : World} (h : Tb w) (hn : 2 ≤ n) (hb : Below n w w') : Tb w' :=
  ⟨fun c hc => (hb.cell (p := ⟨0, c, none⟩) (by show 0 < n; omega)).trans (h.1 c hc),
   fun i hi => ⟨(hb.cell (p := ⟨1, 2 * i, none⟩) (by show 1 < n; omega)).trans (h.2 i hi).1, (hb.cell (p := ⟨1, 2 * i + 1, none⟩) (by show 1 < n; omega)).trans (h.2 i hi).2⟩⟩
theorem Tb.size {w : World} (h : Tb w) : 2 ≤ w.heap.size := by
  have := World.block_lt_of_cell? _ _ (h.2 0 (by decide)).1
  exact this
theorem Tb.fr {w w' : World} (h : Tb w) (f : Fr w w') : Tb w' := h.below h.size f

theorem dec_any (s : ByteArray) (w : World) (hT : Tb w) :
    Calls Tryd.prog 36 #[.string s] w fun e w' => e = .returned (.tuple #[.int .i32 (Lib.decodeGo s).1, .int .i64 (Lib.decodeGo s).2]) ∧ Fr w w' := Tryd.utf8_DecodeRuneInString s w hT

theorem ext_list (S : ByteArray) (a k : Nat) (h : a + k ≤ S.size) : S.extract a (a + k) = ⟨((S.data.toList.drop a).take k).toArray⟩ := by
  rw [Lib.extract_eq]
  congr 1
  simp
theorem rest_list (s : ByteArray) (k : Nat) (h : k ≤ s.size) : (s.extract k s.size).data.toList = s.data.toList.drop k := by
  have : (s.extract k s.size).data.toList = (s.data.toList.drop k).take (s.size - k) := by simp
  rw [this, List.take_of_length_le]
  rw [List.length_drop, Array.length_toList]
  exact Nat.le_refl _

/-- what a round keeps: all that lay below a block, and the block that holds the text -/
def Kp (n₀ Bn : Nat) (A B : World) : Prop := Below n₀ A B ∧ B.heap[Bn]? = A.heap[Bn]?
theorem kp_t {n₀ Bn : Nat} {A B C : World} (h : Kp n₀ Bn A B) (k : Kp n₀ Bn B C) : Kp n₀ Bn A C := ⟨h.1.trans k.1, k.2.trans h.2⟩
theorem kp_b {n₀ Bn : Nat} {w : World} (hn : n₀ ≤ w.heap.size) (hB : Bn < w.heap.size) (W : World) (l : Nat) (o o' : Obj) (hl : w.heap.size ≤ l) (h1 : W.heap[l]? = some o) (h2 : o.isCells = false) (h3 : o.isWalk = false) : Kp n₀ Bn W (W.putObj l o') :=
  ⟨belowK_b (w := w) hn W l o o' hl h1 h2 h3, World.putObj_heap_other (by omega)⟩

set_option maxRecDepth 100000 in
set_option maxHeartbeats 2000000 in
theorem pieces1_in (n : Nat) (hn : 1 ≤ n) (l Bn n₀ : Nat) (S : ByteArray) (hS : S.size ≤ 9223372036854775807) (J Jx : List LK.Bs → World → Prop)
    (hJ : ∀ pre A B, J pre A → Fr A B → J pre B)
    (hY : ∀ pre (x : LK.Bs) W, J pre W → pre.length < (LK.pc S.data.toList).length → x.length ≤ 4 → YieldAt Fence.wide (n - 1) Tryd.prog l #[.string ⟨x.toArray⟩] W fun e W' =>
      (e = .returned (.bool true) ∧ J (pre ++ [x]) W' ∧ Kp n₀ Bn W W') ∨ (e = .returned (.bool false) ∧ Jx (pre ++ [x]) W'))
    (W : World) (h2 : 2 ≤ n₀) (hnW : n₀ ≤ W.heap.size) (hc : W.cell? ⟨Bn, 0, none⟩ = some (.string S)) (hT : Tb W) (h0 : J [] W) :
    CallsIn Fence.wide n Tryd.prog 35 #[.func (.yield l) #[] #[], .pointer (some ⟨Bn, 0, none⟩)] W fun e W' => (∃ v, e = .returned v) ∧
      ((∃ ys, ys = LK.pc S.data.toList ∧ J ys W') ∨ (∃ pre, pre <+: LK.pc S.data.toList ∧ Jx pre W')) := by
  refine callsIn_of_wp Tryd.func35 rfl trivial ?_ rfl
  simp only [Tryd.ntmps35, List.size_toArray, List.length_cons, List.length_nil, Nat.reduceAdd, Nat.reduceSub, Array.replicate_succ, Array.replicate_zero, List.push_toArray, List.append_toArray, List.nil_append, List.cons_append]
  gi_wp2
  gi_loopw [3] (fun p wr => ∃ (a : Nat) (pre : List LK.Bs), p = .int .i64 a ∧ a ≤ S.size ∧ LK.pc S.data.toList = pre ++ LK.pc (S.data.toList.drop a) ∧ Kp n₀ Bn W wr ∧ J pre wr) (fun p _ => S.size - (intOf p).toNat)
  case atStart => exact ⟨0, [], rfl, Nat.zero_le _, by simp, ⟨Below.refl _ _, rfl⟩, h0⟩
  case round =>
    obtain ⟨a, pre, rfl, ha, hx, hb, hJs⟩ := hrel
    have hcr : wr.cell? ⟨Bn, 0, none⟩ = some (.string S) := (World.cell?_of_block (a := ⟨Bn, 0, none⟩) hb.2).trans hc
    have hBr : Bn < wr.heap.size := World.block_lt_of_cell? _ _ hcr
    have hTr : Tb wr := hT.below h2 hb.1
    have hsl : S.data.toList.length = S.size := by rw [Array.length_toList]; rfl
    by_cases hlt : a < S.size
    · have hltZ : (a : Int) < (S.size : Int) := by omega
      have hne : S.data.toList.drop a ≠ [] := by
        intro e
        have := congrArg List.length e
        rw [List.length_drop] at this
        simp at this
        omega
      have hrl := rest_list S a ha
      have hd2 : (Lib.decodeGo (S.extract a S.size)).2 = LK.sz (S.data.toList.drop a) := by
        rw [← hrl]; exact decodeGo_eq _ (by rw [hrl]; exact hne)
      have hdec := dec_any (S.extract a S.size) wr hTr
      obtain ⟨k, hk⟩ : ∃ k, LK.sz (S.data.toList.drop a) = k := ⟨_, rfl⟩
      obtain ⟨r, hr⟩ : ∃ r, (Lib.decodeGo (S.extract a S.size)).1 = r := ⟨_, rfl⟩
      have k1 : 1 ≤ k := by rw [← hk]; exact LK.sz_pos _
      have k4 : k ≤ 4 := by rw [← hk]; exact LK.sz_four _
      have k2 : a + k ≤ S.size := by
        have := LK.sz_len hne
        rw [hk, List.length_drop] at this
        omega
      rw [hd2, hk, hr] at hdec
      have hext := ext_list S a k k2
      have HX : Hid (LK.pc S.data.toList = pre ++ ((S.data.toList.drop a).take k :: LK.pc (S.data.toList.drop (a + k)))) := by
        unfold Hid
        rw [hx, LK.pc_cons hne, hk, List.drop_drop]
      clear hx hrl hd2 hr
      gi_wp2_with (refine ⟨trivial, ?_⟩; gi_at_call 36; refine (callsIn_wide.2 hdec).mono ?_)
      rintro e w1 ⟨rfl, hf1⟩
      have hc1 : w1.cell? ⟨Bn, 0, none⟩ = some (.string S) := (hf1.cell (p := ⟨Bn, 0, none⟩) hBr).trans hcr
      have hb1 : Kp n₀ Bn W w1 := kp_t hb ⟨Below.mono hf1 (by have := hb.1.size; omega), hf1.block Bn hBr⟩
      have hJ1 : J pre w1 := hJ _ _ _ hJs hf1
      obtain ⟨fn, tmps, assign, body, hy, hR⟩ := hY pre ((S.data.toList.drop a).take k) w1 hJ1 (by rw [HX.out]; simp) (by rw [List.length_take]; omega)
      rw [← hext] at hy
      clear hdec hext
      gi_wp2
      refine hR.mono ?_
      rintro e W3 (⟨rfl, hJ3, hk3⟩ | ⟨rfl, hJx3⟩)
      · gi_wp2
        go_roundw
        case rel => exact ⟨a + k, pre ++ [(S.data.toList.drop a).take k], by simp, k2, by rw [HX.out]; simp, kp_t hb1 hk3, hJ3⟩
        case measure => first | omega | (simp [intOf]; omega)
      · gi_wp2
        refine bodyPost_ret (results_none rfl _ _ _) rfl ?_
        exact ⟨⟨_, rfl⟩, .inr ⟨pre ++ [(S.data.toList.drop a).take k], ⟨LK.pc (S.data.toList.drop (a + k)), by rw [HX.out]; simp⟩, hJx3⟩⟩
    · have hltZ : ¬ ((a : Int) < (S.size : Int)) := by omega
      have HX : Hid (pre = LK.pc S.data.toList) := by
        unfold Hid
        rw [hx, List.drop_eq_nil_of_le (by omega), LK.pc_nil, List.append_nil]
      clear hx
      gi_wp2
      go_end0
      exact ⟨⟨_, rfl⟩, .inl (by rw [← HX.out]; exact hJs)⟩

/-- pieces hands out the iterator over a new block that holds the text -/
theorem pieces_any (S : ByteArray) (w : World) :
    Calls Tryd.prog 26 #[.string S] w fun e w' => e = .returned (.func (.func 35) #[] #[.pointer (some ⟨w.heap.size, 0, none⟩)]) ∧ w' = w.alloc (.cells #[.string S] 9) := by
  go_enter Tryd.func26, Tryd.ntmps26
  go_wp2
  go_ret
  exact ⟨rfl, rfl⟩

/-- the iterator's contract -/
theorem seq_stops (n : Nat) (hn : 1 ≤ n) (S : ByteArray) (hS : S.size ≤ 9223372036854775807) (Bn n₀ : Nat) (w : World) (h2 : 2 ≤ n₀) (hn₀ : n₀ ≤ w.heap.size) (hc : w.cell? ⟨Bn, 0, none⟩ = some (.string S)) (hT : Tb w) :
    SeqStopsK Fence.wide n Tryd.prog 35 #[.pointer (some ⟨Bn, 0, none⟩)] (fun x : LK.Bs => #[Value.string ⟨x.toArray⟩]) (Kp n₀ Bn) (fun ys => ys = LK.pc S.data.toList) (fun pre => pre <+: LK.pc S.data.toList) (LK.pc S.data.toList).length w :=
  fun l J Jx W hW hJ _ hY h0 =>
    pieces1_in n hn l Bn n₀ S hS J Jx (fun pre A B hs hf => hJ pre A B none hs hf.grown (fun r e => by cases e)) (fun pre x W h1 h2 _ => hY pre x W h1 h2) W h2 (Nat.le_trans hn₀ hW.size) ((hW.cell (p := ⟨Bn, 0, none⟩) (World.block_lt_of_cell? _ _ hc)).trans hc) (hT.below (Nat.le_trans h2 hn₀) hW) h0

/-- a piece has four bytes at most -/
abbrev P4 := { x : LK.Bs // x.length ≤ 4 }
def bs4 (l : List P4) : List LK.Bs := l.map fun x => x.1
theorem bs4_snoc (l : List P4) (x : P4) : bs4 (l ++ [x]) = bs4 l ++ [x.1] := by simp [bs4]
theorem bs4_len (l : List P4) : (bs4 l).length = l.length := by simp [bs4]
/-- the iterator's contract, of pieces that are known to be short -/
theorem seq_stops4 (n : Nat) (hn : 1 ≤ n) (S : ByteArray) (hS : S.size ≤ 9223372036854775807) (Bn n₀ : Nat) (w : World) (h2 : 2 ≤ n₀) (hn₀ : n₀ ≤ w.heap.size) (hc : w.cell? ⟨Bn, 0, none⟩ = some (.string S)) (hT : Tb w) :
    SeqStopsK Fence.wide n Tryd.prog 35 #[.pointer (some ⟨Bn, 0, none⟩)] (fun x : P4 => #[Value.string ⟨x.1.toArray⟩]) (Kp n₀ Bn) (fun ys => bs4 ys = LK.pc S.data.toList) (fun _ => True) (LK.pc S.data.toList).length w :=
  fun l J Jx W hW hJ _ hY h0 => by
    refine (pieces1_in n hn l Bn n₀ S hS (fun pre W => ∃ p4, bs4 p4 = pre ∧ J p4 W) (fun pre W => ∃ p4, Jx p4 W)
      (fun pre A B hs hf => by obtain ⟨p4, e, h⟩ := hs; exact ⟨p4, e, hJ p4 A B none h hf.grown (fun r e => by cases e)⟩) ?_
      W h2 (Nat.le_trans hn₀ hW.size) ((hW.cell (p := ⟨Bn, 0, none⟩) (World.block_lt_of_cell? _ _ hc)).trans hc) (hT.below (Nat.le_trans h2 hn₀) hW) ⟨[], rfl, h0⟩).mono ?_
    · rintro pre x W1 ⟨p4, rfl, h⟩ hlt hx
      obtain ⟨fn, tmps, assign, body, hy, hR⟩ := hY p4 ⟨x, hx⟩ W1 h (by rw [bs4_len] at hlt; exact hlt)
      refine ⟨fn, tmps, assign, body, hy, hR.mono ?_⟩
      rintro e W' (⟨rfl, hJ', hk⟩ | ⟨rfl, hJx'⟩)
      · exact .inl ⟨rfl, ⟨_, bs4_snoc p4 ⟨x, hx⟩, hJ'⟩, hk⟩
      · exact .inr ⟨rfl, _, hJx'⟩
    · rintro e W' ⟨hv, ⟨ys, rfl, p4, hp, h⟩ | ⟨pre, _, p4, h⟩⟩
      · exact ⟨hv, .inl ⟨p4, hp, h⟩⟩
      · exact ⟨hv, .inr ⟨p4, trivial, h⟩⟩

set_option maxRecDepth 100000 in
set_option maxHeartbeats 1000000 in
/-- kindOf -/
theorem kindOf_any (S : ByteArray) (w : World) (hT : Tb w) :
    Calls Tryd.prog 29 #[.string S] w fun e w' => e = .returned (.int .i32 (LK.kd S.data.toList)) ∧ Fr w w' := by
  have hk := decodeGo_kind S
  have hdec := dec_any S w hT
  generalize hr : ((Lib.decodeGo S).1 : Int) = r at hk hdec
  generalize ((Lib.decodeGo S).2 : Int) = z at hdec
  have HK : Hid _ := hk
  clear hk hr
  go_enter Tryd.func29, Tryd.ntmps29
  go_wp2_with (go_at_call 36; refine hdec.mono ?_)
  rintro _ w1 ⟨rfl, hf⟩
  go_wp2
  · go_ret
    have h : r = 37 := eq_of_beq (by assumption)
    exact ⟨by rw [← HK.out, if_pos (Or.inl h)]; rfl, hf⟩
  · go_ret
    have h : r = 95 := eq_of_beq (by assumption)
    exact ⟨by rw [← HK.out, if_pos (Or.inr (Or.inl h))]; rfl, hf⟩
  · go_ret
    have h : r = 92 := eq_of_beq (by assumption)
    exact ⟨by rw [← HK.out, if_pos (Or.inr (Or.inr h))]; rfl, hf⟩
  · go_ret
    have h1 : r ≠ 37 := ne_of_beq_false (by assumption)
    have h2 : r ≠ 95 := ne_of_beq_false (by assumption)
    have h3 : r ≠ 92 := ne_of_beq_false (by assumption)
    exact ⟨by rw [← HK.out, if_neg (by omega)]; rfl, hf⟩
end Go.Proofs.YtgjgmaadogkjfaaDoor
