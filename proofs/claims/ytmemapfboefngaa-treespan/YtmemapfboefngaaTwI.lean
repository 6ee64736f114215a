/-
  What TreeSpan wants: members are found, the key next to one, an append under a guard.
-/
import Derived.Test.YtmemapfboefngaaGtM
namespace Go.Proofs.Ytmemapfboefngaa
open Go.ChangeShapes Go.WideShapes Go.ChangeAt Go.RowKit
set_option linter.unusedVariables false
set_option linter.unusedSimpArgs false
set_option maxRecDepth 100000
namespace TK
theorem get_mem {l : List Pr} (hu : Up l) {p : Pr} (hp : p ∈ l) : get p.k l = some p := TR.find_mem (lt := lt) Pr.k ord hu hp
theorem find_mem {L : List (List Pr)} {U : List (List Int)} (h : chk L U = 0) {p : Pr} (hp : p ∈ L.flatten) : findA p.k L U = ((p.n, true), 0) := by
  obtain ⟨hu, _, hk, _⟩ := chk_facts h
  rw [find_get h, if_neg (by have := hk p hp; omega), get_mem hu hp]; rfl
theorem bl_next : ∀ (m l : List UInt8), Op.bytesLess l (m ++ [0]) = !(Op.bytesLess m l) := by
  intro m
  induction m with
  | nil =>
    intro l
    cases l with
    | nil => rfl
    | cons a t =>
      show Op.bytesLess (a :: t) [0] = !(Op.bytesLess [] (a :: t))
      have h1 : Op.bytesLess [] (a :: t) = true := rfl
      rw [h1, less_cb, Lib.compareBytes]
      have h2 : ¬ a < 0 := by rw [UInt8.lt_iff_toNat_lt]; simp
      rw [if_neg h2]
      by_cases h3 : (0 : UInt8) < a
      · rw [if_pos h3]; rfl
      · rw [if_neg h3]
        cases t <;> rfl
  | cons b m ih =>
    intro l
    cases l with
    | nil => rfl
    | cons a t =>
      rw [List.cons_append, Op.bytesLess, Op.bytesLess, ih t]
      by_cases h1 : a < b
      · have h2 : ¬ b < a := by rw [UInt8.lt_iff_toNat_lt] at *; omega
        have h3 : ¬ b = a := by rintro rfl; exact h2 h1
        simp [h1, h2, h3]
      · by_cases h2 : b < a
        · have h3 : ¬ a = b := by rintro rfl; exact h1 h2
          simp [h1, h2, h3]
        · have : a = b := by
            rw [UInt8.lt_iff_toNat_lt] at h1 h2
            exact UInt8.toNat_inj.1 (by omega)
          subst this
          simp [h1]
def nx (m : ByteArray) : ByteArray := m ++ ⟨#[0]⟩
theorem nx_list (m : ByteArray) : (nx m).toList = m.toList ++ [0] := by
  rw [Lib.toList_data, Lib.toList_data]
  unfold nx
  rw [ByteArray.data_append]
  simp
theorem lt_nx (m k : ByteArray) : lt k (nx m) = !(lt m k) := by
  unfold lt
  rw [nx_list, bl_next]
theorem nx_size (m : ByteArray) : (nx m).size = m.size + 1 := by
  unfold nx
  rw [ByteArray.size_append]; rfl
theorem rng_parts {l : List Pr} (hu : Up l) {low mid high : ByteArray} (h1 : lt mid low = false) (h2 : lt high mid = false) : rng low mid l ++ rng (nx mid) high l = rng low high l :=
  TR.range_parts (lt := lt) Pr.k ord (low := low) (high := high) (next := nx mid) (fun k => by rw [lt_nx]; cases lt mid k <;> simp) h1 h2 hu
theorem rng_mem {l : List Pr} {lo hi : ByteArray} {p : Pr} (h : p ∈ rng lo hi l) : p ∈ l ∧ lt p.k lo = false ∧ lt hi p.k = false := by
  unfold rng btw at h
  obtain ⟨h1, h2⟩ := List.mem_filter.1 h
  simp only [Bool.and_eq_true, Bool.not_eq_true'] at h2
  exact ⟨h1, h2.1, h2.2⟩
end TK
theorem wpList_append_Lg {α : Type} (E : Cd α) {w : World} {ops : Array Oper} {rest : List Oper} {o : Oper} {a : Act} {Q : Exit → Act → World → Prop} (hw : Region.wanted o (yielded ops a.tmps) = true) (s x : Operand) (t e : TypeId) (i : TypeInfo) (z : Value) (by_ : Nat)
    (ho : o.op = .call { callee := .builtin .append, args := #[s, x], argTypes := #[t, t] })
    (ht : Try.prog.underlying t = some (.slice e)) (hi : Try.prog.info? e = some i) (hz : i.zero = some z) (hs1 : i.size = E.k) (hby : i.bytes = by_) (hzs : z.cells.size = E.k)
    (base : Nat) (v : Value) (n : Nat) (xs : List α) (hs : a.eval s = v) (hown : w.ownsRow base e E.k v n (flat E xs))
    (u : Value) (l : List α) (hx : a.eval x = u) (hl : IsL E w u l) (hm : n + l.length ≤ maxLen) (hsz : (n + l.length) * by_ ≤ 140737488355328) (hbase : base ≤ w.heap.size)
    (h : ∀ v' w', w'.ownsRow base e E.k v' (n + l.length) (flat E (xs ++ l)) → w.grownBy w' v.ownBlock → wpList Try.prog ops Q rest (a.put o.dst v') w') : wpList Try.prog ops Q (o :: rest) a w :=
  wpList_step fun _ hK => by rw [if_pos hw]; exact wp_append_L E s x t e i z by_ ho ht hi hz hs1 hby hzs base v n xs hs hown u l hx hl hm hsz hbase fun v' w' h2 h3 => hK _ _ (h v' w' h2 h3)
end Go.Proofs.Ytmemapfboefngaa
