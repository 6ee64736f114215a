/-
  What is of little bulk is of little weight: so what opens an input by its weights opens it by its bulk.
-/
import Derived.Test.YtaabandfjdnkjaaGreatDoorRows
import Derived.Test.YtaabandfjdnkjaaGreatDoorGqG
import Derived.ChangeMaps
import Derived.Deep.DeepHandedRow
namespace Go.Proofs.YtaabandfjdnkjaaGreatDoor
open Go.ChangeShapes Go.WideShapes
set_option linter.unusedVariables false
set_option linter.unusedSimpArgs false
set_option maxRecDepth 100000
theorem bulk_one {H : Type} (d : DataW H) : 1 ≤ Rows.uptoBulk d := by
 cases d with
 | lit x => cases x <;> simp [Rows.uptoBulk]
 | _ => simp [Rows.uptoBulk]
theorem bulk_count {H : Type} : ∀ (es : List (DataW H)), es.length ≤ Rows.uptoBulkAll es
 | [] => by simp [Rows.uptoBulkAll]
 | c :: es => by
  rw [Rows.uptoBulkAll, List.length_cons]
  have := bulk_one c
  have := bulk_count es
  omega
theorem bulk_two {H : Type} : ∀ (es : List (Lit × DataW H)), es.length * 2 ≤ Rows.uptoBulkEntries es
 | [] => by simp [Rows.uptoBulkEntries]
 | (x, d) :: es => by
  rw [Rows.uptoBulkEntries, List.length_cons]
  have := bulk_one d
  have := bulk_two es
  have : 2 ≤ Rows.uptoBulkEntry (x, d) := by cases x <;> simp [Rows.uptoBulkEntry] <;> omega
  omega
theorem mul_up {M a b k : Nat} (h : k ≤ M * a) (hb : a ≤ b) : k ≤ M * b := Nat.le_trans h (Nat.mul_le_mul_left M hb)
def wOk (P : Program) (M : Nat) (S : List TypeId) : Bool := S.all fun t => match P.underlying t with
 | some (.slice e) => S.contains e && decide (P.bytesOf e ≤ M)
 | some (.struct fs) => (fs.toList.map (·.type)).all fun f => S.contains f
 | some (.pointer e) => S.contains e
 | some (.array _ e) => S.contains e
 | some (.map k e) => S.contains e && decide (P.bytesOf k + P.bytesOf e ≤ 2 * M)
 | _ => true
theorem wOk_at {P : Program} {M : Nat} {S : List TypeId} (h : wOk P M S = true) {t : TypeId} (ht : S.contains t = true) : (match P.underlying t with
 | some (.slice e) => S.contains e && decide (P.bytesOf e ≤ M)
 | some (.struct fs) => (fs.toList.map (·.type)).all fun f => S.contains f
 | some (.pointer e) => S.contains e
 | some (.array _ e) => S.contains e
 | some (.map k e) => S.contains e && decide (P.bytesOf k + P.bytesOf e ≤ 2 * M)
 | _ => true) = true := by
 unfold wOk at h
 exact List.all_eq_true.1 h t (by simpa using ht)
section
variable {H : Type} {P : Program} {M : Nat} {S : List TypeId}
mutual
theorem wbD (hM : wOk P M S = true) (h1 : 1 ≤ M) : ∀ (d : DataW H) (t : TypeId) (k : Nat), S.contains t = true → k ∈ d.weights P t → k ≤ M * Rows.uptoBulk d
 | .lit (.string b), t, k, hs, h => by
  rw [DataW.weights, List.mem_singleton] at h
  rw [Rows.uptoBulk, h]
  exact Nat.le_trans (Nat.le_succ _) (Nat.le_mul_of_pos_left _ h1)
 | .lit (.int ..), t, k, hs, h => by simp [DataW.weights] at h
 | .lit (.bool ..), t, k, hs, h => by simp [DataW.weights] at h
 | .lit (.float ..), t, k, hs, h => by simp [DataW.weights] at h
 | .lit .nil, t, k, hs, h => by simp [DataW.weights] at h
 | .nil, t, k, hs, h => by simp [DataW.weights] at h
 | .ptr d, t, k, hs, h => by
  rw [DataW.weights] at h
  rw [Rows.uptoBulk]
  split at h
  ·
   rename_i e hu
   have HS := wOk_at hM hs
   rw [hu] at HS
   exact mul_up (wbD hM h1 d _ k HS h) (Nat.le_succ _)
  · cases h
 | .slice es sp, t, k, hs, h => by
  rw [DataW.weights] at h
  rw [Rows.uptoBulk]
  split at h
  ·
   rename_i e hu
   have HS' := wOk_at hM hs
   rw [hu] at HS'
   obtain ⟨HS, HB⟩ := (Bool.and_eq_true _ _).mp HS'
   have HB := of_decide_eq_true HB
   rcases List.mem_cons.1 h with rfl | h
   ·
    have h2 := bulk_count es
    have h3 := bulk_count sp
    rw [Nat.mul_comm]
    exact Nat.mul_le_mul HB (by omega)
   ·
    rcases List.mem_append.1 h with h | h
    · exact mul_up (wbAll hM h1 es _ k HS h) (by omega)
    · exact mul_up (wbAll hM h1 sp _ k HS h) (by omega)
  · cases h
 | .agg ps, t, k, hs, h => by
  rw [DataW.weights] at h
  rw [Rows.uptoBulk]
  split at h
  ·
   rename_i fs hu
   have HS := wOk_at hM hs
   rw [hu] at HS
   exact mul_up (wbEach hM h1 ps _ k HS h) (Nat.le_succ _)
  ·
   rename_i n e hu
   have HS := wOk_at hM hs
   rw [hu] at HS
   exact mul_up (wbAll hM h1 ps _ k HS h) (Nat.le_succ _)
  · cases h
 | .iface _ _, t, k, hs, h => by simp [DataW.weights] at h
 | .map es, t, k, hs, h => by
  rw [DataW.weights] at h
  rw [Rows.uptoBulk]
  split at h
  ·
   rename_i a e hu
   have HS' := wOk_at hM hs
   rw [hu] at HS'
   obtain ⟨HS, HB⟩ := (Bool.and_eq_true _ _).mp HS'
   have HB := of_decide_eq_true HB
   rcases List.mem_cons.1 h with rfl | h
   ·
    have h2 := bulk_two es
    refine Nat.le_trans (Nat.mul_le_mul_left _ HB) ?_
    rw [← Nat.mul_assoc, Nat.mul_comm]
    exact Nat.mul_le_mul_left _ (by omega)
   · exact mul_up (wbEnts hM h1 es _ k HS h) (Nat.le_succ _)
  · cases h
 | .held _, t, k, hs, h => by simp [DataW.weights] at h
theorem wbAll (hM : wOk P M S = true) (h1 : 1 ≤ M) : ∀ (ds : List (DataW H)) (e : TypeId) (k : Nat), S.contains e = true → k ∈ DataW.weightsAll P e ds → k ≤ M * Rows.uptoBulkAll ds
 | [], e, k, hs, h => by simp [DataW.weightsAll] at h
 | d :: r, e, k, hs, h => by
  rw [DataW.weightsAll] at h
  rw [Rows.uptoBulkAll]
  rcases List.mem_append.1 h with h | h
  · exact mul_up (wbD hM h1 d _ k hs h) (by omega)
  · exact mul_up (wbAll hM h1 r _ k hs h) (by omega)
theorem wbEach (hM : wOk P M S = true) (h1 : 1 ≤ M) : ∀ (ds : List (DataW H)) (ts : List TypeId) (k : Nat), (ts.all fun f => S.contains f) = true → k ∈ DataW.weightsEach P ts ds → k ≤ M * Rows.uptoBulkAll ds
 | [], ts, k, hs, h => by cases ts <;> simp [DataW.weightsEach] at h
 | d :: r, [], k, hs, h => by simp [DataW.weightsEach] at h
 | d :: r, t :: ts, k, hs, h => by
  rw [List.all_cons] at hs
  obtain ⟨HS, HT⟩ := (Bool.and_eq_true _ _).mp hs
  rw [DataW.weightsEach] at h
  rw [Rows.uptoBulkAll]
  rcases List.mem_append.1 h with h | h
  · exact mul_up (wbD hM h1 d _ k HS h) (by omega)
  · exact mul_up (wbEach hM h1 r ts k HT h) (by omega)
theorem wbEnts (hM : wOk P M S = true) (h1 : 1 ≤ M) : ∀ (es : List (Lit × DataW H)) (e : TypeId) (k : Nat), S.contains e = true → k ∈ DataW.weightsEntries P e es → k ≤ M * Rows.uptoBulkEntries es
 | [], e, k, hs, h => by simp [DataW.weightsEntries] at h
 | x :: r, e, k, hs, h => by
  rw [DataW.weightsEntries] at h
  rw [Rows.uptoBulkEntries]
  rcases List.mem_append.1 h with h | h
  · exact mul_up (wbEnt hM h1 x _ k hs h) (by omega)
  · exact mul_up (wbEnts hM h1 r _ k hs h) (by omega)
theorem wbEnt (hM : wOk P M S = true) (h1 : 1 ≤ M) : ∀ (x : Lit × DataW H) (e : TypeId) (k : Nat), S.contains e = true → k ∈ DataW.weightsEntry P e x → k ≤ M * Rows.uptoBulkEntry x
 | (.string b, d), e, k, hs, h => by
  rw [DataW.weightsEntry] at h
  rw [Rows.uptoBulkEntry]
  rcases List.mem_cons.1 h with rfl | h
  · exact Nat.le_trans (show b.length ≤ b.length + Rows.uptoBulk d + 1 by omega) (Nat.le_mul_of_pos_left _ h1)
  · exact mul_up (wbD hM h1 d _ k hs h) (by omega)
 | (.int .., d), e, k, hs, h => by
  rw [DataW.weightsEntry] at h
  ·
   rw [Rows.uptoBulkEntry]
   · exact mul_up (wbD hM h1 d _ k hs h) (by omega)
   · intros; contradiction
  · intros; contradiction
 | (.bool .., d), e, k, hs, h => by
  rw [DataW.weightsEntry] at h
  ·
   rw [Rows.uptoBulkEntry]
   · exact mul_up (wbD hM h1 d _ k hs h) (by omega)
   · intros; contradiction
  · intros; contradiction
 | (.float .., d), e, k, hs, h => by
  rw [DataW.weightsEntry] at h
  ·
   rw [Rows.uptoBulkEntry]
   · exact mul_up (wbD hM h1 d _ k hs h) (by omega)
   · intros; contradiction
  · intros; contradiction
 | (.nil, d), e, k, hs, h => by
  rw [DataW.weightsEntry] at h
  ·
   rw [Rows.uptoBulkEntry]
   · exact mul_up (wbD hM h1 d _ k hs h) (by omega)
   · intros; contradiction
  · intros; contradiction
end
end
theorem bulk_weights {H : Type} {S : List TypeId} (hM : wOk Tryz.prog 4096 S = true) {t : TypeId} (ht : S.contains t = true) {d : DataW H} (hb : Rows.uptoBulk d ≤ 1048576) : ∀ k ∈ d.weights Tryz.prog t, k ≤ 140737488351232 := fun k hk => by
 have := wbD hM (by decide) d t k ht hk
 omega
theorem nds_bulk {H : Type} {enc : TypeId × Value → H} {W : World} {v : Value} {d : DataW H} {p : List MemPlace} {l : List EX.Nd} (hl : IsL cdN W v l) (h : DataW.Trod enc Tryz.prog W 0 (fun _ => true) true 24 v d p) : l.length ≤ Rows.uptoBulk d := by
 obtain ⟨a, c, rfl, _⟩ := hl
 obtain ⟨fuel, hf⟩ := h
 rcases Deep.open_slice Tryz.underlying24 hf with ⟨hcs, hx⟩ | ⟨a', len, cap, m, n, D, Pl, hcs, hb, hl, hm, hmm, hx, hel⟩
 ·
  simp only [Value.cells] at hcs
  simp at hcs
  omega
 ·
  simp only [Value.cells] at hcs
  simp at hcs
  obtain ⟨_, e, _⟩ := hcs
  have hx' := congrArg Prod.fst hx
  simp only at hx'
  have := bulk_count ((List.range len).map D)
  rw [List.length_map, List.length_range] at this
  rw [hx', Rows.uptoBulk]
  omega
def inT : List TypeId := [22, 42, 26, 3, 2, 9, 23, 24, 28]
theorem inT_ok : wOk Tryz.prog 4096 inT = true := by kernel_rfl
end Go.Proofs.YtaabandfjdnkjaaGreatDoor
