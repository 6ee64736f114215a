/-
  What has, isHot, checkRest, kept, ended and back of package journal answer.
-/
import Derived.Test.YtklldfkaihpkiaaJdA
namespace Go.Proofs.Ytklldfkaihpkiaa
open Go.ChangeShapes Go.WideShapes Go.ChangeAt Go.RowKit
set_option linter.unusedVariables false
set_option linter.unusedSimpArgs false
set_option maxRecDepth 100000

set_option maxHeartbeats 1000000 in
theorem has_any (p q : Value) (d : JN.D) (no : Int) (w : World) (hr : IsD w p q d) (hb1 : d.pg.length ≤ 9223372036854775806) :
    Calls Try.prog 60 #[.agg #[p, q], .int .i64 no] w fun e w' => e = .returned (.string (JN.readD d no).1) ∧ Fr w w' := by
  have c := fun W (f : Fr w W) => read_any p q d no W (hr.fr f) hb1
  clear hr
  generalize JN.readD d no = r at c
  go_enter Try.func60, Try.ntmps60
  go_wp2_with fail
  refine (c _ ((Fr.refl w).alloc _)).mono ?_
  rintro _ w1 ⟨rfl, f1⟩
  go_wp2_with fail
  go_ret
  exact ⟨rfl, ((Fr.refl w).alloc _).trans f1⟩
theorem hot_ext (s : ByteArray) (h : ¬ s.size = 0) : ((s.extract 0 1).toList == [74]) = JN.hotB s := by
  rw [ByteArray.toList_eq]
  have e : (s.extract 0 1).data.toList = s.data.toList.take 1 := by simp
  have hl : s.data.toList.length = s.size := by rw [Array.length_toList]; rfl
  rw [e]
  unfold JN.hotB JN.bs
  cases hs : s.data.toList with
  | nil => rw [hs] at hl; exact absurd hl.symm h
  | cons c r => simp
set_option maxHeartbeats 1000000 in
theorem liteHas_any (s : ByteArray) (w : World) :
    Calls Try.prog 76 #[.string s, .string ⟨#[74]⟩] w fun e w' => e = .returned (.bool (JN.hotB s)) ∧ w' = w := by
  by_cases h : s.size = 0
  · have e : s = ⟨#[]⟩ := JN.size0 h
    subst e
    go_enter Try.func76, Try.ntmps76
    go_wp2_with fail
    go_ret
    exact ⟨rfl, rfl⟩
  · have h1 : (1 : Int) ≤ (s.size : Int) := by omega
    go_enter Try.func76, Try.ntmps76
    go_wp2_with fail
    go_ret
    exact ⟨ret_bool (hot_ext s h), rfl⟩
set_option maxHeartbeats 1000000 in
theorem hasPrefix_any (s : ByteArray) (w : World) :
    Calls Try.prog 74 #[.string s, .string ⟨#[74]⟩] w fun e w' => e = .returned (.bool (JN.hotB s)) ∧ w' = w := by
  have c := liteHas_any s w
  generalize JN.hotB s = r at c
  go_enter Try.func74, Try.ntmps74
  go_wp2_with fail
  refine c.mono ?_
  rintro _ w1 ⟨rfl, rfl⟩
  go_wp2_with fail
  go_ret
  exact ⟨rfl, rfl⟩
set_option maxHeartbeats 1000000 in
theorem isHot_any (p q : Value) (d : JN.D) (w : World) (hr : IsD w p q d) (hb1 : d.pg.length ≤ 9223372036854775806) :
    Calls Try.prog 57 #[.agg #[p, q]] w fun e w' => e = .returned (.bool (JN.hotB (JN.readD d 0).1)) ∧ Fr w w' := by
  have c := fun W (f : Fr w W) => has_any p q d 0 W (hr.fr f) hb1
  clear hr
  generalize (JN.readD d 0).1 = s at c
  have c2 := fun W => hasPrefix_any s W
  generalize JN.hotB s = r at c2
  go_enter Try.func57, Try.ntmps57
  go_wp2_with fail
  refine (c _ ((Fr.refl w).alloc _)).mono ?_
  rintro _ w1 ⟨rfl, f1⟩
  go_wp2_with fail
  refine (c2 _).mono ?_
  rintro _ w1 ⟨rfl, rfl⟩
  go_wp2_with fail
  go_ret
  exact ⟨rfl, ((Fr.refl w).alloc _).trans f1⟩
set_option maxHeartbeats 1000000 in
theorem checkRest_any (p q P Q : Value) (s : JN.S) (w : World) (hr : IsS w p q P Q s) (h1 : s.da.pg.length ≤ 9223372036854775806) (h2 : s.jo.pg.length ≤ 9223372036854775806) :
    Calls Try.prog 56 #[.agg #[p, q, P, Q]] w fun e w' => e = .returned (.int .i64 ((if JN.schk s = 0 then if s.da.wt = [] ∧ s.jo.wt = [] then 0 else 4 else JN.schk s : Nat) : Int)) ∧ Fr w w' := by
  have c := fun W (f : Fr w W) => jcheck_any _ _ _ _ s W (hr.fr f) h1 h2
  obtain ⟨ap, np, cp, rfl⟩ := hr.1.1.slice
  obtain ⟨aq, cq, rfl, _, _⟩ := hr.1.2
  obtain ⟨aP, nP, cP, rfl⟩ := hr.2.1.slice
  obtain ⟨aQ, cQ, rfl, _, _⟩ := hr.2.2
  have e1 : (s.da.wt = []) ↔ s.da.wt.length = 0 := List.length_eq_zero_iff.symm
  have e2 : (s.jo.wt = []) ↔ s.jo.wt.length = 0 := List.length_eq_zero_iff.symm
  simp only [e1, e2]
  clear hr e1 e2
  generalize s.da.wt.length = n at c ⊢
  generalize s.jo.wt.length = m at c ⊢
  generalize JN.schk s = y at c
  by_cases h0 : y = 0
  · subst h0
    by_cases hn : n = 0
    · subst hn
      by_cases hm : m = 0
      · subst hm
        go_enter Try.func56, Try.ntmps56
        go_wp2_with fail
        refine (c _ ((Fr.refl w).alloc _)).mono ?_
        rintro _ w1 ⟨rfl, f1⟩
        obtain ⟨k0, k1, k2, k3, _, _, _, _⟩ := ((Blk.new w #[.slice ap np cp, .slice aq 0 cq, .slice aP nP cP, .slice aQ 0 cQ] 46).fr f1).four
        have HF := hideP (((Fr.refl w).alloc (.cells #[.slice ap np cp, .slice aq 0 cq, .slice aP nP cP, .slice aQ 0 cQ] 46)).trans f1)
        clear f1 c
        go_wp2_with fail
        go_ret
        exact ⟨rfl, HF.out⟩
      · have hmZ : (0 : Int) < (m : Int) := by omega
        go_enter Try.func56, Try.ntmps56
        go_wp2_with fail
        refine (c _ ((Fr.refl w).alloc _)).mono ?_
        rintro _ w1 ⟨rfl, f1⟩
        obtain ⟨k0, k1, k2, k3, _, _, _, _⟩ := ((Blk.new w #[.slice ap np cp, .slice aq 0 cq, .slice aP nP cP, .slice aQ m cQ] 46).fr f1).four
        have HF := hideP (((Fr.refl w).alloc (.cells #[.slice ap np cp, .slice aq 0 cq, .slice aP nP cP, .slice aQ m cQ] 46)).trans f1)
        clear f1 c
        go_wp2_with fail
        go_ret
        exact ⟨ret_int (by simp [hm]), HF.out⟩
    · have hnZ : (0 : Int) < (n : Int) := by omega
      go_enter Try.func56, Try.ntmps56
      go_wp2_with fail
      refine (c _ ((Fr.refl w).alloc _)).mono ?_
      rintro _ w1 ⟨rfl, f1⟩
      obtain ⟨k0, k1, k2, k3, _, _, _, _⟩ := ((Blk.new w #[.slice ap np cp, .slice aq n cq, .slice aP nP cP, .slice aQ m cQ] 46).fr f1).four
      have HF := hideP (((Fr.refl w).alloc (.cells #[.slice ap np cp, .slice aq n cq, .slice aP nP cP, .slice aQ m cQ] 46)).trans f1)
      clear f1 c
      go_wp2_with fail
      go_ret
      exact ⟨ret_int (by simp [hn]), HF.out⟩
  · have hne : ((y : Int) != 0) = true := by simp; omega
    have hne2 : ¬ ((y : Int) = 0) := by omega
    rw [if_neg h0]
    go_enter Try.func56, Try.ntmps56
    go_wp2_with fail
    refine (c _ ((Fr.refl w).alloc _)).mono ?_
    rintro _ w1 ⟨rfl, f1⟩
    go_wp2_with fail
    go_ret
    exact ⟨rfl, ((Fr.refl w).alloc _).trans f1⟩
theorem u8_small (n : Nat) (h : n < 256) : ((n.toUInt8.toNat : Nat) : Int) = (n : Int) := by
  have : n.toUInt8.toNat = n := by simp; omega
  rw [this]
theorem conv_two (n m : Nat) (hn : n < 256) (hm : m < 256) (x y : Int) (hx : x = n) (hy : y = m) (w : World) :
    (convert 85 9 (.slice (some ⟨w.heap.size, 0, none⟩) 2 2)).run Try.prog (w.alloc (.cells #[.int .u8 x, .int .u8 y] 5)) = .ok (.string ⟨#[n.toUInt8, m.toUInt8]⟩) (w.alloc (.cells #[.int .u8 x, .int .u8 y] 5)) := by
  subst hx hy
  refine run_convert_bytes_back (P := Try.prog) _ 85 9 5 ⟨w.heap.size, 0, none⟩ 2 [n.toUInt8, m.toUInt8] Try.underlying85 Try.underlying5 Try.underlying9 ?_
  intro j hj
  rw [Addr.add_lit, Nat.zero_add]
  match j, hj with
  | 0, _ =>
    have := (Blk.new w #[.int .u8 (n : Int), .int .u8 (m : Int)] 5).cell 0 (u := .int .u8 (n : Int)) rfl
    rw [this, ← u8_small n hn]; rfl
  | 1, _ =>
    have := (Blk.new w #[.int .u8 (n : Int), .int .u8 (m : Int)] 5).cell 1 (u := .int .u8 (m : Int)) rfl
    rw [this, ← u8_small m hm]; rfl
set_option maxHeartbeats 1000000 in
theorem kept_any (n : Nat) (hn : n ≤ 31) (t : ByteArray) (ht : t.size ≤ 260) (w : World) :
    Calls Try.prog 59 #[.int .i64 n, .string t] w fun e w' => e = .returned (.string (JN.encB n t)) ∧ Fr w w' := by
  have hcv := conv_two (n / 256) n (by omega) (by omega) ((n : Int) / 256) (n : Int) (by omega) rfl w
  go_enter Try.func59, Try.ntmps59
  go_wp2_with fail
  go_ret
  exact ⟨rfl, (Fr.refl w).alloc _⟩
set_option maxHeartbeats 1000000 in
theorem back_short (s : ByteArray) (h : s.size < 2) (w : World) :
    Calls Try.prog 68 #[.string s] w fun e w' => e = .returned (.tuple #[.agg #[.int .i64 0, .int .i64 0, .string ⟨#[]⟩], .bool false]) ∧ Fr w w' := by
  have h1 : (s.size : Int) < 2 := by omega
  go_enter Try.func68, Try.ntmps68
  go_wp2_with fail
  exact bodyPost_ret (v := .tuple #[.agg #[.int .i64 0, .int .i64 0, .string ⟨#[]⟩], .bool false]) (by simp [results, Try.results68, go_sem]) rfl ⟨rfl, (Fr.refl w).alloc _⟩

theorem own_grow {B sz n : Nat} {T : TypeId} {v : Value} {xs : List Value} {w w' : World} (h : w.ownsRow B T sz v n xs) (hg : w.grownBy w' v.ownBlock) (hB : B ≤ w.heap.size) : Below B w w' :=
  Below.grown (Below.refl B w) hg hB (own_base h)
theorem Try.infoO : (Try.prog.info? 84).map (fun i => (i.zero, i.size, i.bytes)) = some (some (.agg #[.int .i64 0, .int .i64 0, .string ⟨#[]⟩]), 3, 32) := by kernel_rfl
set_option maxHeartbeats 2000000 in
/-- ended, onto a row that the caller owns -/
theorem ended_any (v : Value) (ops : List JN.O) (B : Nat) (w : World) (hl : ops.length ≤ 100) (hB : B ≤ w.heap.size) (ho : w.ownsRow B 84 3 v ops.length (flat cdO ops)) :
    Calls Try.prog 61 #[v] w fun e w' => ∃ v', e = .returned v' ∧ w'.ownsRow B 84 3 v' (ops ++ JN.endsO).length (flat cdO (ops ++ JN.endsO)) ∧ Below B w w' := by
  obtain ⟨i0, hi, hz0, hz1, hz2⟩ := info_parts Try.infoO
  obtain ⟨a, c, rfl⟩ := own_slice ho
  have HO := hideP ho
  clear ho
  generalize hn : ops.length = n at hl HO
  have HN := hideP hn
  clear hn
  go_enter Try.func61, Try.ntmps61
  go_wp2_with (at_builtin; refine wpList_append_own _ rfl _ _ 47 rfl B 84 i0 (.agg #[.int .i64 0, .int .i64 0, .string ⟨#[]⟩]) 3 32 Try.underlying47 hi hz0 hz1 hz2 rfl (by decide) _ _ _ rfl (own_fr HO.out ((Fr.refl w).alloc _)) ⟨w.heap.size, 0, none⟩ 3 3 [.int .i64 3, .int .i64 0, .string ⟨#[]⟩, .int .i64 2, .int .i64 0, .string ⟨#[45]⟩, .int .i64 4, .int .i64 0, .string ⟨#[]⟩] rfl ?qc1 ?qc2 ?qc3 ?qc4 ?qc5 ?qc6 ?_)
  case qc1 => rfl
  case qc2 =>
    intro j u hj
    rw [Addr.add_lit, Nat.zero_add]
    exact (Blk.new w #[.int .i64 3, .int .i64 0, .string ⟨#[]⟩, .int .i64 2, .int .i64 0, .string ⟨#[45]⟩, .int .i64 4, .int .i64 0, .string ⟨#[]⟩] 84).cell j (by simpa using hj)
  case qc3 => exact flat_one cdO JN.endsO
  case qc4 => unfold maxLen; omega
  case qc5 => omega
  case qc6 => simp; omega
  intro v2 w3 hown hgrow hnil
  have f3 : Below B w w3 := Below.grown ((Below.refl B w).alloc hB _) hgrow (by simp; omega) (own_base HO.out)
  have ho2 : w3.ownsRow B 84 3 v2 (ops ++ JN.endsO).length (flat cdO (ops ++ JN.endsO)) := by
    rw [flat_app, List.length_append, HN.out]; exact hown
  have HO2 := hideP ho2
  have HF3 := hideP f3
  clear hown hgrow hnil f3 ho2
  go_wp2_with fail
  go_ret
  exact ⟨_, rfl, HO2.out, HF3.out⟩
end Go.Proofs.Ytklldfkaihpkiaa
