/-
  Entries as plain lists: what is wrong with them, their bytes, and reading them from bytes.
-/
import Derived.Test.YtefojbfihnnpdaaDoorLMath
namespace Go.Proofs.YtefojbfihnnpdaaDoor
namespace LF
open VM

abbrev En := Int × List Vl
def wideE (e : En) : Prop := (-9223372036854775808 ≤ e.1 ∧ e.1 ≤ 9223372036854775807) ∧ ∀ x ∈ e.2, LM.wide x

/-- what is wrong with one entry, behind an Id -/
def one (last : Int) (e : En) : Nat := if e.1 < 1 then 3 else if e.1 ≤ last then 4 else chkRow e.2
/-- what is wrong with entries, behind an Id -/
def chkE : Int → List En → Nat
  | _, [] => 0
  | last, e :: l => if one last e = 0 then chkE e.1 l else one last e
def chk (l : List En) : Nat := if 40 < l.length then 2 else chkE 0 l
/-- the bytes of an entry -/
def eb (e : En) : List UInt8 := NM.enc (WM.zig e.1) ++ WM.row e.2
def bytes (l : List En) : List UInt8 := NM.enc l.length ++ l.flatMap eb
/-- an Id that is read -/
def sg (l : List UInt8) : Except Nat (Int × List UInt8) :=
  match RM.nu l with
  | .error e => .error e
  | .ok (n, t) => .ok (RM.zag n, t)
/-- an entry that is read, behind an Id -/
def en (last : Int) (l : List UInt8) : Except Nat (En × List UInt8) :=
  match sg l with
  | .error e => .error e
  | .ok (id, t) =>
    if id < 1 then .error 3 else if id ≤ last then .error 4 else
    match RM.row t with
    | .error e => .error e
    | .ok (r, u) => .ok ((id, r), u)
def ens : Nat → Int → List UInt8 → Except Nat (List En × List UInt8)
  | 0, _, l => .ok ([], l)
  | n + 1, last, l =>
    match en last l with
    | .error e => .error e
    | .ok (x, t) =>
      match ens n x.1 t with
      | .error e => .error e
      | .ok (xs, u) => .ok (x :: xs, u)
def unp (l : List UInt8) : Except Nat (List En) :=
  if 245 < l.length then .error 2 else
  match RM.nu l with
  | .error e => .error e
  | .ok (n, t) =>
    if 40 < n then .error 2 else
    match ens n 0 t with
    | .error e => .error e
    | .ok (xs, u) => if u = [] then .ok xs else .error 1

/-- the last Id -/
def lst (last : Int) : List En → Int
  | [] => last
  | e :: l => lst e.1 l
theorem lst_snoc (last : Int) (l : List En) (e : En) : lst last (l ++ [e]) = e.1 := by
  induction l generalizing last with
  | nil => rfl
  | cons a t ih => exact ih a.1

theorem one_ok {last : Int} {e : En} (h : one last e = 0) : 1 ≤ e.1 ∧ last < e.1 ∧ chkRow e.2 = 0 := by
  unfold one at h
  split at h
  · cases h
  split at h
  · cases h
  exact ⟨by omega, by omega, h⟩
theorem chkE_ok : ∀ {last : Int} {l : List En}, chkE last l = 0 → ∀ e ∈ l, 1 ≤ e.1 ∧ chkRow e.2 = 0
  | _, [], _ => fun e he => by simp at he
  | last, a :: l, h => by
    unfold chkE at h
    split at h
    · rename_i h1
      intro e he
      rcases List.mem_cons.1 he with rfl | he
      · exact ⟨(one_ok h1).1, (one_ok h1).2.2⟩
      · exact chkE_ok h e he
    · rename_i h1; exact absurd h h1
theorem chk_ok {l : List En} (h : chk l = 0) : l.length ≤ 40 ∧ chkE 0 l = 0 := by
  unfold chk at h
  split at h
  · cases h
  · exact ⟨by omega, h⟩
theorem zig_lt {e : En} (h : wideE e) : WM.zig e.1 < 18446744073709551616 := by
  have := h.1
  unfold WM.zig
  split <;> omega
theorem sg_back {e : En} (h : wideE e) (rest : List UInt8) : sg (NM.enc (WM.zig e.1) ++ rest) = .ok (e.1, rest) := by
  unfold sg
  rw [LM.nu_enc (zig_lt h)]
  simp only [LM.zag_zig]
theorem en_back {last : Int} {e : En} (h : one last e = 0) (hw : wideE e) (rest : List UInt8) : en last (eb e ++ rest) = .ok (e, rest) := by
  obtain ⟨h1, h2, h3⟩ := one_ok h
  unfold en eb
  rw [List.append_assoc, sg_back hw]
  simp only
  rw [if_neg (by omega), if_neg (by omega), LM.row_back h3 hw.2]
theorem ens_back : ∀ {last : Int} {l : List En}, chkE last l = 0 → (∀ e ∈ l, wideE e) → ∀ rest, ens l.length last (l.flatMap eb ++ rest) = .ok (l, rest)
  | _, [], _, _, rest => rfl
  | last, e :: l, h, hw, rest => by
    unfold chkE at h
    split at h
    · rename_i h1
      have h2 := ens_back h (fun x hx => hw x (by simp [hx])) rest
      rw [List.length_cons, List.flatMap_cons, List.append_assoc]
      unfold ens
      rw [en_back h1 (hw e (by simp))]
      simp only
      rw [h2]
    · rename_i h1; exact absurd h h1
/-- what is packed is unpacked as it was, and with more behind it is refused -/
theorem unp_back {l : List En} (h : chk l = 0) (hw : ∀ e ∈ l, wideE e) (rest : List UInt8) (hl : (bytes l ++ rest).length ≤ 245) : unp (bytes l ++ rest) = if rest = [] then .ok l else .error 1 := by
  obtain ⟨h1, h2⟩ := chk_ok h
  unfold unp
  rw [if_neg (by omega)]
  unfold bytes
  rw [List.append_assoc, LM.nu_enc (by omega)]
  simp only
  rw [if_neg (by omega), ens_back h2 hw]
theorem unp_long {l : List UInt8} (h : 245 < l.length) : unp l = .error 2 := if_pos h

theorem sg_only {l t : List UInt8} {i : Int} (h : sg l = .ok (i, t)) : (-9223372036854775808 ≤ i ∧ i ≤ 9223372036854775807) ∧ l = NM.enc (WM.zig i) ++ t := by
  unfold sg at h
  split at h
  · cases h
  · rename_i n u hn
    cases h
    obtain ⟨h1, h2⟩ := LM.nu_only hn
    exact ⟨LM.zag_wide h2, by rw [LM.zig_zag]; exact h1⟩
theorem en_only {last : Int} {l t : List UInt8} {e : En} (h : en last l = .ok (e, t)) : one last e = 0 ∧ wideE e ∧ l = eb e ++ t := by
  unfold en at h
  split at h
  · cases h
  rename_i id u hs
  split at h
  · cases h
  split at h
  · cases h
  split at h
  · cases h
  rename_i h1 h2 _ r v hr
  cases h
  obtain ⟨q1, q2⟩ := sg_only hs
  obtain ⟨r1, r2, r3⟩ := LM.row_only hr
  refine ⟨?_, ⟨q1, r2⟩, ?_⟩
  · unfold one
    rw [if_neg h1, if_neg h2]
    exact r1
  · unfold eb
    rw [q2, r3, List.append_assoc]
theorem ens_only : ∀ {n : Nat} {last : Int} {l t : List UInt8} {xs : List En}, ens n last l = .ok (xs, t) → xs.length = n ∧ chkE last xs = 0 ∧ (∀ e ∈ xs, wideE e) ∧ l = xs.flatMap eb ++ t
  | 0, _, l, t, xs, h => by
    unfold ens at h
    cases h
    exact ⟨rfl, rfl, fun e he => by simp at he, rfl⟩
  | n + 1, last, l, t, xs, h => by
    unfold ens at h
    split at h
    · cases h
    rename_i x u hx
    split at h
    · cases h
    rename_i ys v hy
    cases h
    obtain ⟨a1, a2, a3⟩ := en_only hx
    obtain ⟨b1, b2, b3, b4⟩ := ens_only hy
    refine ⟨by simp [b1], ?_, ?_, ?_⟩
    · unfold chkE
      rw [if_pos a1]
      exact b2
    · intro e he
      rcases List.mem_cons.1 he with rfl | he
      · exact a2
      · exact b3 e he
    · rw [a3, b4, List.flatMap_cons, List.append_assoc]
theorem unp_only {l : List UInt8} {xs : List En} (h : unp l = .ok xs) : chk xs = 0 ∧ (∀ e ∈ xs, wideE e) ∧ l = bytes xs ∧ l.length ≤ 245 := by
  unfold unp at h
  split at h
  · cases h
  rename_i h245
  split at h
  · cases h
  rename_i n t hn
  split at h
  · cases h
  rename_i h40
  split at h
  · cases h
  rename_i ys u hy
  split at h
  · rename_i hu
    cases h
    subst hu
    obtain ⟨b1, b2, b3, b4⟩ := ens_only hy
    obtain ⟨c1, c2⟩ := LM.nu_only hn
    refine ⟨?_, b3, ?_, by omega⟩
    · unfold chk
      rw [if_neg (by omega)]
      exact b2
    · unfold bytes
      rw [c1, b1, b4, List.append_nil]
  · cases h
theorem en_err {last : Int} {l : List UInt8} {c : Nat} (h : en last l = .error c) : c ≠ 0 := by
  unfold en at h
  split at h
  · rename_i e hs
    cases h
    unfold sg at hs
    split at hs
    · rename_i hn; cases hs; exact RM.nu_err hn
    · cases hs
  split at h
  · cases h; decide
  split at h
  · cases h; decide
  split at h
  · rename_i hr; cases h; exact RM.row_err hr
  · cases h
theorem ens_err : ∀ {n : Nat} {last : Int} {l : List UInt8} {c : Nat}, ens n last l = .error c → c ≠ 0
  | 0, _, l, c, h => by unfold ens at h; cases h
  | n + 1, last, l, c, h => by
    unfold ens at h
    split at h
    · rename_i hx; cases h; exact en_err hx
    split at h
    · rename_i hx; cases h; exact ens_err hx
    · cases h
theorem unp_err {l : List UInt8} {c : Nat} (h : unp l = .error c) : c ≠ 0 := by
  unfold unp at h
  split at h
  · cases h; decide
  split at h
  · rename_i hn; cases h; exact RM.nu_err hn
  split at h
  · cases h; decide
  split at h
  · rename_i hx; cases h; exact ens_err hx
  split at h
  · cases h
  · cases h; decide

/-- reading goes on behind what was read -/
def pre (xs : List En) (x : Except Nat (List En × List UInt8)) : Except Nat (List En × List UInt8) :=
  match x with
  | .error e => .error e
  | .ok (ys, u) => .ok (xs ++ ys, u)
theorem pre_nil (x : Except Nat (List En × List UInt8)) : pre [] x = x := by
  unfold pre
  split <;> rfl
theorem ens_succ (n : Nat) (last : Int) (l : List UInt8) : ens (n + 1) last l = match en last l with
    | .error e => .error e
    | .ok (x, t) =>
      match ens n x.1 t with
      | .error e => .error e
      | .ok (xs, u) => .ok (x :: xs, u) := rfl
theorem ens_bad {n : Nat} {last : Int} {l : List UInt8} {e : Nat} (h : en last l = .error e) (xs : List En) : pre xs (ens (n + 1) last l) = .error e := by
  unfold ens pre
  rw [h]
theorem ens_step {n : Nat} {last : Int} {l t : List UInt8} {x : En} (h : en last l = .ok (x, t)) (xs : List En) : pre xs (ens (n + 1) last l) = pre (xs ++ [x]) (ens n x.1 t) := by
  rw [ens_succ, h]
  simp only
  cases ens n x.1 t with
  | error e => rfl
  | ok p => simp [pre]
theorem en_le {last : Int} {l t : List UInt8} {e : En} (h : en last l = .ok (e, t)) : t.length ≤ l.length := by
  obtain ⟨_, _, h3⟩ := en_only h
  rw [h3, List.length_append]
  omega

/-- an entry that is right has at most 155 bytes; what matters is that any one fits -/
theorem row_len {r : List Vl} (h : chkRow r = 0) (hw : ∀ x ∈ r, LM.wide x) : (WM.row r).length ≤ 145 := by
  obtain ⟨h8, ha⟩ := WM.chkRow_ok h
  have e1 : (NM.enc r.length).length = 1 := by rw [NM.enc_small (by omega)]; rfl
  have e2 : ∀ m : List Vl, (∀ x ∈ m, (WM.vb x).length ≤ 18) → (m.flatMap WM.vb).length ≤ 18 * m.length := by
    intro m
    induction m with
    | nil => simp
    | cons a t ih =>
      intro hm
      have h1 := hm a (by simp)
      have h2 := ih (fun x hx => hm x (by simp [hx]))
      simp only [List.flatMap_cons, List.length_append, List.length_cons]
      omega
  have e3 := e2 r (fun x hx => by
    have hk := LM.kinds (ha x hx)
    unfold WM.vb
    rw [List.length_cons]
    have hz : (NM.enc (WM.zig x.n)).length ≤ 10 := NM.enc_ten (LM.zig_lt (hw x hx))
    rcases hk with rfl | ⟨k1, ks⟩ | ⟨k2, _, ks⟩
    · simp [WM.body]
    · unfold WM.body
      rw [if_pos k1]
      omega
    · have he : (NM.enc x.s.size).length = 1 := by rw [NM.enc_small (by omega)]; rfl
      have hd := LM.dl x.s
      unfold WM.body
      rw [if_neg (by omega), if_pos k2, List.length_append]
      omega)
  unfold WM.row
  rw [List.length_append]
  omega
theorem eb_len {last : Int} {e : En} (h : one last e = 0) (hw : wideE e) : (eb e).length ≤ 155 := by
  obtain ⟨_, _, h3⟩ := one_ok h
  have h1 : (NM.enc (WM.zig e.1)).length ≤ 10 := NM.enc_ten (zig_lt hw)
  have h2 := row_len h3 hw.2
  unfold eb
  rw [List.length_append]
  omega
theorem eb_pos (e : En) : 1 ≤ (eb e).length := by
  have := NM.enc_pos (WM.zig e.1)
  unfold eb
  rw [List.length_append]
  omega
end LF
end Go.Proofs.YtefojbfihnnpdaaDoor
