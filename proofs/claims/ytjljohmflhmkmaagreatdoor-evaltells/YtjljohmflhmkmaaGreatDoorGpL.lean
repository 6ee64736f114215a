/-
  What belongs together: RnV, ReL, ReM, ReN, ReO.
-/
import Derived.Test.YtjljohmflhmkmaaGreatDoorGpG
import Derived.Test.YtjljohmflhmkmaaGreatDoorGpM
import Derived.Test.YtjljohmflhmkmaaGreatDoorGpJ
import Derived.Test.YtjljohmflhmkmaaGreatDoorReP
import Derived.Test.YtjljohmflhmkmaaGreatDoorReK
import Derived.Test.YtjljohmflhmkmaaGreatDoorGpK
import Derived.Test.YtjljohmflhmkmaaGreatDoorEwD
namespace Go.Proofs.YtjljohmflhmkmaaGreatDoor
set_option linter.unusedVariables false
set_option linter.unusedSimpArgs false
namespace EX
open VM
theorem vals_app_any {α : Type} (f : Nd → List α → Except Nat α) : ∀ (s t : F), vals f (F.app s t) = match vals f s with
    | .error c => .error c
    | .ok xs => match vals f t with
      | .error c => .error c
      | .ok ys => .ok (xs ++ ys)
  | .nil, t => by
    simp only [F.app, vals]
    cases vals f t <;> rfl
  | .nd n k s, t => by
    simp only [F.app, vals, vals_app_any f s t]
    cases vals f k with
    | error c => rfl
    | ok ks =>
      simp only
      cases f n ks with
      | error c => rfl
      | ok x =>
        simp only
        cases vals f s with
        | error c => rfl
        | ok ys =>
          simp only
          cases vals f t <;> rfl
/-- one tree more -/
theorem vals_next {α : Type} (f : Nd → List α → Except Nat α) {t : F} {m : Nat} {n : Nd} {k : F} {xs : List α} (h : F.take (m + 1) t = F.app (F.take m t) (.nd n k .nil)) (hx : vals f (F.take m t) = .ok xs) :
    (∀ c, nv f n k = .error c → vals f t = .error c) ∧ (∀ x, nv f n k = .ok x → vals f (F.take (m + 1) t) = .ok (xs ++ [x])) := by
  have h1 : ∀ r, nv f n k = r → vals f (F.take (m + 1) t) = match r with
      | .error c => .error c
      | .ok x => .ok (xs ++ [x]) := by
    intro r hr
    rw [h, vals_app_any, hx, vals_one, hr]
    cases r <;> rfl
  refine ⟨fun c hc => ?_, fun x hx => h1 _ hx⟩
  have h2 := h1 _ hc
  have h3 : vals f t = vals f (F.app (F.take (m + 1) t) (F.drop (m + 1) t)) := by rw [F.take_drop]
  rw [h3, vals_app_any, h2]
theorem nv_of {α : Type} (f : Nd → List α → Except Nat α) {n : Nd} {k : F} {xs : List α} (h : vals f k = .ok xs) : nv f n k = f n xs := by unfold nv; rw [h]
theorem nv_err {α : Type} (f : Nd → List α → Except Nat α) {n : Nd} {k : F} {c : Nat} (h : vals f k = .error c) : nv f n k = .error c := by unfold nv; rw [h]
theorem good_take : ∀ (m : Nat) {t : F}, t.good → (F.take m t).good
  | 0, t, _ => trivial
  | m + 1, .nil, _ => trivial
  | m + 1, .nd n k s, h => ⟨h.1, h.2.1, h.2.2.1, good_take m h.2.2.2⟩
theorem vals_ne {α : Type} {f : Nd → List α → Except Nat α} (hf : ∀ n l c, f n l = .error c → c ≠ 0) : ∀ {t : F} {c : Nat}, vals f t = .error c → c ≠ 0
  | .nil, c, h => by cases h
  | .nd n k s, c, h => by
    unfold vals at h
    split at h
    · rename_i e he; cases h; exact vals_ne hf he
    · split at h
      · rename_i e he; cases h; exact hf _ _ _ he
      · split at h
        · rename_i e he; cases h; exact vals_ne hf he
        · cases h
theorem nv_ne {α : Type} {f : Nd → List α → Except Nat α} (hf : ∀ n l c, f n l = .error c → c ≠ 0) {n : Nd} {k : F} {c : Nat} (h : nv f n k = .error c) : c ≠ 0 := by
  unfold nv at h
  split at h
  · rename_i e he; cases h; exact vals_ne hf he
  · exact hf _ _ _ h
end EX
namespace EV
open VM EX
theorem wo_col {n : Nd} {l : List Vl} {x : Vl} (h : wo non n l = .ok x) : n.op ≠ 2 := by
  intro h2
  unfold wo at h
  rw [if_neg (by omega), if_pos h2] at h
  cases h
theorem vals_col : ∀ {t : F} {xs : List Vl}, vals (wo non) t = .ok xs → ∀ m ∈ t.flat, m.op ≠ 2
  | .nil, _, _, m, hm => by simp [F.flat] at hm
  | .nd n k s, xs, h, m, hm => by
    unfold vals at h
    split at h
    · cases h
    · rename_i ks hk
      split at h
      · cases h
      · rename_i x hx
        split at h
        · cases h
        · rename_i ys hs
          simp only [F.flat, List.mem_append, List.mem_cons] at hm
          rcases hm with hm | rfl | hm
          · exact vals_col hk m hm
          · exact wo_col hx
          · exact vals_col hs m hm
theorem nv_col {n : Nd} {k : F} {v : Vl} (h : nv (wo non) n k = .ok v) : ∀ m ∈ k.flat ++ [n], m.op ≠ 2 := by
  unfold nv at h
  split at h
  · cases h
  · rename_i ks hk
    intro m hm
    rcases List.mem_append.1 hm with hm | hm
    · exact vals_col hk m hm
    · obtain rfl : m = n := by simpa using hm
      exact wo_col h
/-- is there a column? -/
def hc (e : List Nd) : Bool := e.any fun m => decide (m.op = 2)
/-- a folded tree, as the document tells it -/
theorem ff_doc (n : Nd) (k : F) : (ff (.nd n k .nil)).flat = if hc (k.flat ++ [n]) = false then (match nv (wo non) n k with
    | .ok v => if 0 ≤ v.n then [lit v] else (ff k).flat ++ [n]
    | .error _ => (ff k).flat ++ [n]) else (ff k).flat ++ [n] := by
  have e1 : nv (wo non) n (ff k) = nv (wo non) n k := nv_vals (ff_vals non k)
  have e2 : ff .nil = .nil := rfl
  rcases ff_cases n k .nil with ⟨e, hno⟩ | ⟨v, hv, h0, e⟩
  · rw [e, e2]
    have e3 : (F.nd n (ff k) .nil).flat = (ff k).flat ++ [n] := rfl
    rw [e3]
    split
    · cases hn : nv (wo non) n k with
      | error c => rfl
      | ok v =>
        have := hno v (e1.trans hn)
        simp only [if_neg (show ¬ 0 ≤ v.n by omega)]
    · rfl
  · rw [e, e2]
    have hh : hc (k.flat ++ [n]) = false := by
      unfold hc
      rw [List.any_eq_false]
      intro m hm
      have := nv_col (e1.symm.trans hv) m hm
      simpa using this
    rw [if_pos hh, ← e1, hv]
    simp only [if_pos h0]
    rfl
theorem ff_app : ∀ (s t : F), ff (F.app s t) = F.app (ff s) (ff t)
  | .nil, t => rfl
  | .nd n k s, t => by
    rcases ff_cases n k s with ⟨e, hno⟩ | ⟨v, hv, h0, e⟩
    · rw [e]
      rcases ff_cases n k (F.app s t) with ⟨e', _⟩ | ⟨v, hv, h0, e'⟩
      · simp only [F.app]
        rw [e', ff_app s t]
      · have := hno v hv
        omega
    · rw [e]
      rcases ff_cases n k (F.app s t) with ⟨e', hno⟩ | ⟨v', hv', h0', e'⟩
      · have := hno v hv
        omega
      · simp only [F.app]
        rw [hv] at hv'
        cases hv'
        rw [e', ff_app s t]
theorem ff_next {t : F} {m : Nat} {n : Nd} {k : F} (h : F.take (m + 1) t = F.app (F.take m t) (.nd n k .nil)) : (ff (F.take (m + 1) t)).flat = (ff (F.take m t)).flat ++ (ff (.nd n k .nil)).flat := by
  rw [h, ff_app, F.flat_app]
end EV
end Go.Proofs.YtjljohmflhmkmaaGreatDoor
namespace Go.Proofs.YtjljohmflhmkmaaGreatDoor
open Go.ChangeShapes Go.WideShapes Go.ChangeAt Go.RowKit
set_option linter.unusedVariables false
set_option linter.unusedSimpArgs false
set_option maxRecDepth 100000
set_option maxHeartbeats 4000000

theorem EV.tr_tz {x : VM.Vl} (h : EV.isT x = false) : EV.tr x = .ok (EV.tz x) := by
  unfold EV.tr EV.tz
  rw [if_neg (by rw [h]; decide)]
  repeat' split
  all_goals first | rfl | contradiction
theorem chk_size {x : VM.Vl} (h : VM.chk x = 0) : x.s.size ≤ 16 := by
  unfold VM.chk at h
  split at h
  · cases h
  split at h
  · cases h
  split at h
  · cases h
  · omega
theorem EV.in02 (b : Bool) : (if b = true then (2 : Int) else 0) = 0 ∨ (if b = true then (2 : Int) else 0) = 1 ∨ (if b = true then (2 : Int) else 0) = 2 := by cases b <;> simp
theorem nodeOf_any (n : EX.Nd) (l : List VM.Vl) (kv cv rv : Value) (cs : List ByteArray) (row : List VM.Vl) (w : World) (h : IsL cdV w kv l) (hc : IsL cdB w cv cs) (hr : IsL cdV w rv row) (hcl : cs.length ≤ 8) (hlen : cs.length = row.length) (hn : EX.nchk n = 0) (hk : l.length = n.kids.toNat) (hg : ∀ x ∈ l, EV.gd x) (hchk : ∀ x ∈ l, VM.chk x = 0) :
    Calls Tryz.prog 60 #[EX.val n, kv, cv, rv] w fun e w' => e = .returned (exV (EV.wo (EV.fnd (cs.zip row)) n l)) ∧ Fr w w' := by
  have haw := EV.aw_of hn hk
  have hl7 : l.length ≤ 7 := by
    have hkm : n.kids ≤ 7 := by
      unfold EX.nchk at hn
      split at hn
      · cases hn
      split at hn
      · cases hn
      · rename_i h1 h2
        have : EX.km n.op ≤ 7 := by unfold EX.km; repeat' split <;> omega
        omega
    omega
  obtain ⟨op, kids, ⟨vk, vn, vs⟩, nm⟩ := n
  simp only [EX.val] at *
  unfold EV.Aw at haw
  try simp only at haw
  by_cases h1 : op = 1
  · subst h1
    have e : EV.wo (EV.fnd (cs.zip row)) ⟨1, kids, ⟨vk, vn, vs⟩, nm⟩ l = .ok ⟨vk, vn, vs⟩ := by unfold EV.wo; rw [if_pos rfl]
    rw [e]
    exact nodeOf_lit kids vk vn vs nm kv cv rv w
  by_cases h2 : op = 2
  · subst h2
    have e : EV.wo (EV.fnd (cs.zip row)) ⟨2, kids, ⟨vk, vn, vs⟩, nm⟩ l = (match EV.fnd (cs.zip row) nm.data.toList with | some y => .ok y | none => .error 5) := by
      unfold EV.wo
      simp only
      rw [if_neg (by decide), if_pos trivial]
      try (cases EV.fnd (cs.zip row) nm.data.toList <;> rfl)
    rw [e]
    exact nodeOf_col kids vk vn vs nm kv cv rv cs row w hc hr hcl hlen
  by_cases h3 : op = 3 ∨ (5 ≤ op ∧ op ≤ 9)
  · have hp : 0 < l.length := by
      unfold EV.Ar at haw
      omega
    have hop : op = 3 ∨ op = 5 ∨ op = 6 ∨ op = 7 ∨ op = 8 ∨ op = 9 := by omega
    have e : EV.wo (EV.fnd (cs.zip row)) ⟨op, kids, ⟨vk, vn, vs⟩, nm⟩ l = EV.rck op l := by
      unfold EV.wo
      simp only
      rw [if_neg h1, if_neg h2, if_pos h3]
    rw [e]
    have hd : l.headD EX.nul = l[0]'hp := by cases l with
      | nil => simp at hp
      | cons x r => rfl
    have hlast : l.getLastD EX.nul = l[l.length - 1]'(by omega) := by
      rw [List.getLastD_eq_getLast?, List.getLast?_eq_getElem?, List.getElem?_eq_getElem (by omega)]
      rfl
    have hb0 := (hg (l[0]'hp) (List.getElem_mem _)).1
    have hb1 := (hg (l[l.length - 1]'(by omega)) (List.getElem_mem _)).1
    exact nodeOf_num op kids vk vn vs nm l kv cv rv w _ hop h hp hl7 (EV.num op (l[0]'hp).n (l[l.length - 1]'(by omega)).n) (by rw [EV.rck_doc hchk, hd, hlast]; try rfl) (fun c hc => EV.num_ne hc) (fun W => wholeOf_any op _ _ W hop hb0 hb1)
  by_cases h4 : op = 4 ∨ op = 16 ∨ op = 17
  · have hp : 0 < l.length := by
      unfold EV.Ar at haw
      omega
    have e : EV.wo (EV.fnd (cs.zip row)) ⟨op, kids, ⟨vk, vn, vs⟩, nm⟩ l = EV.tl (EV.two_ (EV.jn op l)) := by
      unfold EV.wo
      simp only
      rw [if_neg h1, if_neg h2, if_neg h3, if_pos (by omega)]
    rw [e]
    have hin : (if op = 4 then LG.not ((l.map EV.tz).headD 0) else if op = 16 then LG.all (l.map EV.tz) else LG.any (l.map EV.tz)) = 0 ∨ (if op = 4 then LG.not ((l.map EV.tz).headD 0) else if op = 16 then LG.all (l.map EV.tz) else LG.any (l.map EV.tz)) = 1 ∨ (if op = 4 then LG.not ((l.map EV.tz).headD 0) else if op = 16 then LG.all (l.map EV.tz) else LG.any (l.map EV.tz)) = 2 := EV.in_ite (LG.not_in _) (EV.in_ite (LG.all_in _) (LG.any_in _))
    have hte : ¬ 0 < l.countP EV.kT + l.countP EV.kB → ∀ x ∈ l, x.k ≤ 3 ∧ EV.tr x = .ok (EV.tz x) := by
      intro hno x hx
      refine ⟨(EV.chk_kind (hchk x hx)).2, EV.tr_tz ?_⟩
      cases hq : EV.isT x with
      | false => rfl
      | true => exact absurd ((EV.any_text hchk).1 (List.any_eq_true.2 ⟨x, hx, hq⟩)) hno
    have hJ := EV.tl_jn (op := op) (l := l) (by omega) hchk
    rcases h4 with h4 | h4 | h4
    · exact nodeOf_jn4 op kids vk vn vs nm l kv cv rv w _ h4 h hp hl7 _ hin hJ hte rfl
    · exact nodeOf_jn16 op kids vk vn vs nm l kv cv rv w _ h4 h hp hl7 _ hin hJ hte rfl
    · exact nodeOf_jn17 op kids vk vn vs nm l kv cv rv w _ h4 h hp hl7 _ hin hJ hte rfl
  have e : EV.wo (EV.fnd (cs.zip row)) ⟨op, kids, ⟨vk, vn, vs⟩, nm⟩ l = EV.tl (EV.cmp op l) := by
    unfold EV.wo
    simp only
    rw [if_neg h1, if_neg h2, if_neg h3, if_neg (by omega)]
  rw [e]
  have har : EV.Ar op l := by
    rcases haw with h | h | ⟨h, _⟩ | h
    · exact absurd h h1
    · exact absurd h h2
    · exfalso; omega
    · exact h
  by_cases h20 : op = 20 ∨ op = 21
  · have hl2 : l.length = 2 := by unfold EV.Ar at har; omega
    obtain ⟨x, y, rfl⟩ : ∃ x y, l = [x, y] := by
      match l, hl2 with
      | [x, y], _ => exact ⟨x, y, rfl⟩
    have hx := hchk x (by simp)
    have hy := hchk y (by simp)
    have sx := chk_size hx
    have sy := chk_size hy
    exact nodeOf_like op kids vk vn vs nm [x, y] kv cv rv w _ h20 h (by simp) hl7 (perr y.s) (mtc y.s x.s) rfl (EV.cmp_like h20 hx hy) (fun W => patternCheck_any y.s W (by omega)) (fun h0 W => matchOf_any y.s x.s W h0 sx)
  · have hp : 0 < l.length := by unfold EV.Ar at har; omega
    have hop : (10 ≤ op ∧ op ≤ 15) ∨ op = 18 ∨ op = 19 ∨ (22 ≤ op ∧ op ≤ 25) := by unfold EV.Ar at har; omega
    refine nodeOf_ask op kids vk vn vs nm l kv cv rv w _ hop h hp hl7 (EV.ask op l) (EV.ask_in op l) ?_ ?_
    · rw [EV.cmp_ask har (by omega) (by omega) hchk]
      rfl
    · intro W f
      exact askOf_any op l kv W (h.fr f) har (by omega) (by omega) (fun x hx => by have := chk_size (hchk x hx); unfold maxLen; omega)

end Go.Proofs.YtjljohmflhmkmaaGreatDoor
namespace Go.Proofs.YtjljohmflhmkmaaGreatDoor
open Go.ChangeShapes Go.WideShapes Go.ChangeAt Go.RowKit
set_option linter.unusedVariables false
set_option linter.unusedSimpArgs false
set_option maxRecDepth 100000
set_option maxHeartbeats 4000000
/-- what is known of the columns -/
structure Cols (cs : List ByteArray) (row : List VM.Vl) : Prop where
  few : cs.length ≤ 8
  same : cs.length = row.length
  chk : VM.chkAll row = 0
  gd : ∀ x ∈ row, EV.gd x
def VoTo (cs : List ByteArray) (row : List VM.Vl) (N : Nat) : Prop := ∀ (n : EX.Nd) (k : EX.F) (v cv rv : Value) (W : World), (k.flat ++ [n]).length < N → (EX.F.nd n k .nil).good → (k.flat ++ [n]).length ≤ 60 → (∀ m ∈ k.flat ++ [n], EV.gd m.v) → IsL cdN W v (k.flat ++ [n]) → IsL cdB W cv cs → IsL cdV W rv row →
  Calls Tryz.prog 35 #[v, cv, rv] W fun r w' => r = .returned (exV (EX.nv (EV.wo (EV.fnd (cs.zip row))) n k)) ∧ Fr W w'
theorem ll_cellM {w : World} {u : Value} {ls : List (List EX.Nd)} (h : IsLL w u ls) (h0 : 0 < ls.length) : ∃ g o c, ∃ qs : List Sl, ∃ hq : qs.length = ls.length, u = .slice (some ⟨g, o, none⟩) ls.length c ∧ ls.length ≤ c ∧ (∀ i (h1 : i < qs.length), w.cell? ⟨g, o + i, none⟩ = some (.slice qs[i].a qs[i].n qs[i].c)) ∧ ∀ i (h1 : i < qs.length) (h2 : i < ls.length), IsL cdN w qs[i].v ls[i] := by
  obtain ⟨qs, ⟨a, c, e, hc, hcs⟩, hq, hall⟩ := h
  rcases hcs with h | ⟨g, o, rfl, _, hat⟩
  · rw [h] at hq; simp at hq; omega
  · exact ⟨g, o, c, qs, hq, by rw [e, hq], by omega, fun i hi => hat.q1 i hi, hall⟩
theorem EV.vals_ok {cs : List ByteArray} {row : List VM.Vl} (C : Cols cs row) : ∀ {t : EX.F} {xs : List VM.Vl}, t.good → (∀ m ∈ t.flat, EV.gd m.v) → EX.vals (EV.wo (EV.fnd (cs.zip row))) t = .ok xs → ∀ x ∈ xs, EV.gd x ∧ VM.chk x = 0
  | .nil, xs, _, _, h, x, hx => by cases h; simp at hx
  | .nd n k s, xs, hg, hv, h, x, hx => by
    simp only [EX.F.flat, List.mem_append, List.mem_cons] at hv
    unfold EX.vals at h
    split at h
    · cases h
    · rename_i ks hk
      split at h
      · cases h
      · rename_i y hy
        split at h
        · cases h
        · rename_i ys hs
          cases h
          have ik := EV.vals_ok C hg.2.2.1 (fun m hm => hv m (.inl hm)) hk
          rcases List.mem_cons.1 hx with rfl | hx
          · exact ⟨EV.wo_gd (fun s y h => EV.fnd_gd C.gd s y h) (hv n (.inr (.inl rfl))) (fun z hz => (ik z hz).1) hy, EV.wo_chk (fun s y h => EV.fnd_chk C.chk s y h) hg.1 hy⟩
          · exact EV.vals_ok C hg.2.2.2 (fun m hm => hv m (.inr (.inr hm))) hs x hx
theorem valueOf_core (cs : List ByteArray) (row : List VM.Vl) (C : Cols cs row) (n : EX.Nd) (k : EX.F) (v cv rv : Value) (w : World) (HP : VoTo cs row (k.flat ++ [n]).length) (hg : (EX.F.nd n k .nil).good) (hl : (k.flat ++ [n]).length ≤ 60) (hgd : ∀ m ∈ k.flat ++ [n], EV.gd m.v) (h : IsL cdN w v (k.flat ++ [n])) (hc : IsL cdB w cv cs) (hr : IsL cdV w rv row) :
    Calls Tryz.prog 35 #[v, cv, rv] w fun r w' => r = .returned (exV (EX.nv (EV.wo (EV.fnd (cs.zip row))) n k)) ∧ Fr w w' := by
  obtain ⟨i0, hi0, hz0, hz1, hz2⟩ := info_parts Tryz.infoVal9
  have HK := hideP (fun W (f : Fr w W) => exprKids_any n k v W hg hl (h.fr f))
  have hlk : k.len ≤ 7 := by
    have hkm : n.kids ≤ 7 := by
      have hn := hg.1
      unfold EX.nchk at hn
      split at hn
      · cases hn
      split at hn
      · cases hn
      · rename_i h1 h2
        have : EX.km n.op ≤ 7 := by unfold EX.km; repeat' split <;> omega
        omega
    have := hg.2.1
    omega
  have hpl := EX.F.parts_len k
  -- what one kid tells
  have HSt : Hid (∀ m, m < k.len → ∃ n' k', EX.F.take (m + 1) k = EX.F.app (EX.F.take m k) (.nd n' k' .nil) ∧ k.parts[m]? = some (k'.flat ++ [n']) ∧ ∀ (u : Value) W, Fr w W → IsL cdN W u (k'.flat ++ [n']) → Calls Tryz.prog 35 #[u, cv, rv] W fun r w' => r = .returned (exV (EX.nv (EV.wo (EV.fnd (cs.zip row))) n' k')) ∧ Fr W w') := by
    intro m hm
    obtain ⟨n', k', h1, h2, h3⟩ := EX.take_succ m k hm hg.2.2.1
    have hk : k.flat = (EX.F.take m k).flat ++ (k'.flat ++ [n']) ++ (EX.F.drop (m + 1) k).flat := by
      have hf : (EX.F.take (m + 1) k).flat = (EX.F.take m k).flat ++ (k'.flat ++ [n']) := by rw [h1, EX.F.flat_app]; rfl
      rw [← hf, ← EX.F.flat_app, EX.F.take_drop]
    have hlen := congrArg List.length hk
    simp only [List.length_append, List.length_cons, List.length_nil] at hlen hl
    refine ⟨n', k', h1, h3, fun u W f hu => ?_⟩
    exact HP n' k' u cv rv W (by simp only [List.length_append, List.length_cons, List.length_nil]; omega) h2 (by simp only [List.length_append, List.length_cons, List.length_nil]; omega) (fun m hm => hgd m (by rw [hk]; simp only [List.mem_append] at hm ⊢; exact .inl (.inl (.inr hm)))) hu (hc.fr f) (hr.fr f)
  have HOk := hideP (fun m xs (h : EX.vals (EV.wo (EV.fnd (cs.zip row))) (EX.F.take m k) = .ok xs) => EV.vals_ok C (t := EX.F.take m k) (xs := xs) (by
      have := hg.2.2.1
      exact EX.good_take m this) (fun q hq => hgd q (by
      have e : k.flat = (EX.F.take m k).flat ++ (EX.F.drop m k).flat := by rw [← EX.F.flat_app, EX.F.take_drop]
      rw [e]
      simp only [List.mem_append]
      exact .inl (.inl hq))) h)
  have HNd := hideP (fun W u xs (f : Fr w W) (hu : IsL cdV W u xs) (hx : xs.length = k.len) (ho : ∀ x ∈ xs, EV.gd x ∧ VM.chk x = 0) => nodeOf_any n xs u cv rv cs row W hu (hc.fr f) (hr.fr f) C.few C.same hg.1 (by rw [hx]; have := hg.2.1; omega) (fun x hx => (ho x hx).1) (fun x hx => (ho x hx).2))
  have HLen := hideP (fun (m : Nat) (xs : List VM.Vl) (h : EX.vals (EV.wo (EV.fnd (cs.zip row))) (EX.F.take m k) = .ok xs) => (EX.vals_len h).trans (EX.F.len_take m k))
  have HNv := hideP (fun (c : Nat) (h : EX.vals (EV.wo (EV.fnd (cs.zip row))) k = .error c) => EX.nv_err (EV.wo (EV.fnd (cs.zip row))) (n := n) h)
  have HNo := hideP (fun (xs : List VM.Vl) (h : EX.vals (EV.wo (EV.fnd (cs.zip row))) k = .ok xs) => EX.nv_of (EV.wo (EV.fnd (cs.zip row))) (n := n) h)
  have HNe := hideP (fun (n' : EX.Nd) (k' : EX.F) (c : Nat) (h : EX.nv (EV.wo (EV.fnd (cs.zip row))) n' k' = .error c) => EX.nv_ne (fun n l c h => EV.wo_ne h) h)
  have HNx := hideP (fun (m : Nat) (n' : EX.Nd) (k' : EX.F) (xs : List VM.Vl) (h : EX.F.take (m + 1) k = EX.F.app (EX.F.take m k) (.nd n' k' .nil)) (hx : EX.vals (EV.wo (EV.fnd (cs.zip row))) (EX.F.take m k) = .ok xs) => EX.vals_next (EV.wo (EV.fnd (cs.zip row))) h hx)
  have hfull := EX.take_full k
  generalize EX.nv (EV.wo (EV.fnd (cs.zip row))) n k = R at *
  generalize EV.wo (EV.fnd (cs.zip row)) = F at *
  obtain ⟨a, cap, rfl, hcap, hcs⟩ := h
  obtain ⟨b, o, rfl, hb, hat⟩ : ∃ b o, a = some ⟨b, o, none⟩ ∧ b < w.heap.size ∧ At cdN w b o (k.flat ++ [n]) := by
    rcases hcs with h | h
    · simp at h
    · exact h
  have HNc := hideP (fun W (f : Fr w W) => (hat.fr hb f).nd k.flat.length (by simp))
  simp only [List.getElem_concat_length] at HNc
  have hll : (k.flat ++ [n]).length = k.flat.length + 1 := by simp
  rw [hll] at hcap HK ⊢
  obtain ⟨m9, hm9⟩ : ∃ m9, k.flat.length = m9 := ⟨_, rfl⟩
  have hm10 : m9 ≤ 60 := by rw [← hm9]; simp only [List.length_append, List.length_cons, List.length_nil] at hl; omega
  rw [hm9] at hcap HK HNc ⊢
  obtain ⟨a2, n2, c2, rfl⟩ : ∃ a n c, cv = .slice a n c := by obtain ⟨a, c, h, _⟩ := hc; exact ⟨a, _, c, h⟩
  obtain ⟨a3, n3, c3, rfl⟩ : ∃ a n c, rv = .slice a n c := by obtain ⟨a, c, h, _⟩ := hr; exact ⟨a, _, c, h⟩
  have HB1 := hideP (Blk.new w #[.int .i64 0, .int .i64 0, .string ⟨#[]⟩] 26)
  have HF0 := hideP ((Fr.refl w).alloc (.cells #[.int .i64 0, .int .i64 0, .string ⟨#[]⟩] 26))
  clear hcs hat hc hr HP hgd hl hll hm9 C
  go_enter Tryz.func35, Tryz.ntmps35
  go_wp2_with fail
  generalize w.alloc (.cells #[.int .i64 0, .int .i64 0, .string ⟨#[]⟩] 26) = W0 at *
  refine (HK.out _ HF0.out).mono ?_
  rintro _ w1 ⟨⟨u, rfl, hLL⟩, f1⟩
  have HLL := hideP hLL
  obtain ⟨au, cu, rfl⟩ : ∃ a c, u = .slice a k.len c := by
    obtain ⟨qs, ⟨a, c, e, _⟩, hq, _⟩ := hLL
    exact ⟨a, c, by rw [e, hq, hpl]⟩
  have HF1 := hideP (HF0.out.trans f1)
  have HB2 := hideP (HB1.out.fr f1)
  clear hLL f1
  go_wp2_with fail
  go_loopw [9, 10, 11, 12] (fun kv iv _ _ wr => ∃ (i : Nat) (xs : List VM.Vl), iv = .int .i64 i ∧ i ≤ k.len ∧ EX.vals F (EX.F.take i k) = .ok xs ∧ wr.ownsRow w1.heap.size 26 3 kv i (flat cdV xs) ∧ Fr w1 wr) (fun _ iv _ _ _ => k.len - (intOf iv).toNat)
  case atStart => exact ⟨0, [], rfl, Nat.zero_le _, rfl, World.ownsRow_nil _ _ _ _, Fr.refl _⟩
  case round =>
    obtain ⟨i, xs, rfl, hi, hvx, hown, hfr⟩ := hrel
    obtain ⟨fa, fc, rfl⟩ := own_slice hown
    have HVx := hideP hvx
    have HO := hideP hown
    have HF := hideP hfr
    have HFw := hideP (HF1.out.trans hfr)
    have HB3 := hideP (HB2.out.fr hfr)
    clear hvx hown hfr
    by_cases hlt : i < k.len
    · have hlt' : (i : Int) < (k.len : Int) := by omega
      obtain ⟨g, og, cg, qs, hq, e9, hcg, hcell, hIs⟩ := ll_cellM HLL.out (by rw [hpl]; omega)
      rw [hpl] at e9 hcg
      simp only [Value.slice.injEq] at e9
      obtain ⟨rfl, _, rfl⟩ := e9
      obtain ⟨n', k', ht, hpt, hcall⟩ := HSt.out i hlt
      have hiq : i < qs.length := by rw [hq, hpl]; exact hlt
      have d0 := (Below.cell HF.out (World.block_lt_of_cell? _ _ (hcell i hiq))).trans (hcell i hiq)
      have hIs2 : IsL cdN wr qs[i].v (k'.flat ++ [n']) := by
        have h2 : i < k.parts.length := by rw [hpl]; exact hlt
        have := (hIs i hiq h2).fr HF.out
        have e : k.parts[i] = k'.flat ++ [n'] := by
          rw [List.getElem?_eq_getElem h2] at hpt
          injection hpt
        rw [e] at this
        exact this
      have HCa := hideP (hcall qs[i].v wr HFw.out hIs2)
      obtain ⟨N1, N2⟩ := HNx.out i n' k' xs ht HVx.out
      have hne := fun c h => HNe.out n' k' c h
      have hxl : xs.length = i := by rw [HLen.out i xs HVx.out]; omega
      generalize EX.nv F n' k' = D at *
      unfold Sl.v at HCa
      generalize qs[i].a = qa at *
      generalize qs[i].n = qn at *
      generalize qs[i].c = qc at *
      clear hcell hIs hIs2 hcall ht hpt hiq hq
      cases D with
      | error c =>
        have HE := hideP (hne c rfl)
        have HZ := hideP (HNv.out c (N1 c rfl))
        have e1 : ((c : Int) != 0) = true := by have := HE.out; simp; omega
        have e2 : ¬ ((c : Int) = 0) := by have := HE.out; omega
        simp only [exV, vlV] at HCa
        clear N1 N2 hne
        go_wp2_with fail
        refine HCa.out.mono ?_
        rintro _ w2 ⟨rfl, f2⟩
        have f3 := f2.alloc (.cells #[.int .i64 EX.nul.k, .int .i64 EX.nul.n, .string EX.nul.s] 26)
        have HB4 := hideP (HB3.out.fr f3)
        have HF4 := hideP (HFw.out.trans f3)
        have HB5 := hideP (HB4.out)
        clear f2 f3
        have v0 := HB4.out.cell 0 rfl
        have v1 := HB4.out.cell 1 rfl
        have v2 := HB4.out.cell 2 rfl
        have y0 := HB4.out.frozen 0
        have y1 := HB4.out.frozen 1
        have y2 := HB4.out.frozen 2
        go_wp2_with fail
        generalize w2.alloc (.cells #[.int .i64 EX.nul.k, .int .i64 EX.nul.n, .string EX.nul.s] 26) = w4 at *
        refine bodyPost_ret (v := .tuple #[.agg #[.int .i64 0, .int .i64 0, .string ⟨#[]⟩], .int .i64 (c : Int)]) ?_ rfl ⟨by rw [HZ.out]; rfl, HF4.out.put3 (w.heap.size) (by first | exact Nat.le_refl _ | exact Nat.le_succ _) _ _ _⟩
        obtain ⟨r0, r1, r2⟩ : (put3 w4 (w.heap.size) (.int .i64 0) (.int .i64 0) (.string ⟨#[]⟩)).cell? ⟨w.heap.size, 0, none⟩ = _ ∧ (put3 w4 (w.heap.size) (.int .i64 0) (.int .i64 0) (.string ⟨#[]⟩)).cell? ⟨w.heap.size, 1, none⟩ = _ ∧ (put3 w4 (w.heap.size) (.int .i64 0) (.int .i64 0) (.string ⟨#[]⟩)).cell? ⟨w.heap.size, 2, none⟩ = _ := ⟨(HB4.out.put3 _ _ _).cell 0 rfl, (HB4.out.put3 _ _ _).cell 1 rfl, (HB4.out.put3 _ _ _).cell 2 rfl⟩
        change (results Tryz.f35 _).run Tryz.prog (put3 w4 _ _ _ _) = .ok _ (put3 w4 _ _ _ _)
        simp [results, Tryz.results35, go_sem, r0, r1, r2]
      | ok x =>
        have HZ := hideP (N2 x rfl)
        simp only [exV, vlV] at HCa
        clear N1 N2 hne
        obtain ⟨xk, xn, xz⟩ := x
        simp only at HCa
        go_wp2_with fail
        refine HCa.out.mono ?_
        rintro _ w2 ⟨rfl, f2⟩
        have FW2 := hideP (HF.out.trans (f2.alloc (.cells #[.int .i64 xk, .int .i64 xn, .string xz] 26)))
        have HB4 := hideP (Blk.new w2 #[.int .i64 xk, .int .i64 xn, .string xz] 26)
        have p0 := HB4.out.cell 0 rfl
        have p1 := HB4.out.cell 1 rfl
        have p2 := HB4.out.cell 2 rfl
        have HLit := hideP (lit_one' cdV w2 (.cells #[.int .i64 xk, .int .i64 xn, .string xz] 26) ⟨xk, xn, xz⟩ 26)
        have HO2 := hideP (own_fr HO.out ((f2.alloc (.cells #[.int .i64 xk, .int .i64 xn, .string xz] 26)).alloc (.cells #[.int .i64 xk, .int .i64 xn, .string xz] 26)))
        have hsz : w1.heap.size ≤ w2.heap.size := Nat.le_trans HF.out.size f2.size
        clear f2
        go_wp2_with (at_builtin; refine wpList_append_L cdV rfl _ _ 24 26 i0 _ 32 rfl Tryz.underlying24 hi0 hz0 hz1 hz2 rfl w1.heap.size _ i _ rfl HO2.out (.slice (some ⟨w2.heap.size + 1, 0, none⟩) 1 1) [⟨xk, xn, xz⟩] rfl HLit.out ?c3 ?c4 ?c5 ?_)
        case c3 => unfold maxLen; simp <;> omega
        case c4 => simp <;> omega
        case c5 => simp <;> omega
        intro v2 wB own2 gr2
        have HN2 := hideP own2
        have FB := hideP (show Fr w1 wB from Below.grown (FW2.out.alloc _) gr2 (by simp <;> omega) (own_base HO2.out))
        clear own2 gr2
        go_wp2_with fail
        go_roundw
        case rel => exact ⟨i + 1, xs ++ [(⟨xk, xn, xz⟩ : VM.Vl)], by go_num, by omega, HZ.out, HN2.out, FB.out⟩
        case measure => simp [intOf]; omega
    · obtain rfl : i = k.len := by omega
      have hlt' : ((k.len : Int) < (k.len : Int)) = False := by simp
      have hxl : xs.length = k.len := by rw [HLen.out k.len xs HVx.out]; omega
      have hIs : IsL cdV wr (.slice fa k.len fc) xs := by
        have h := HO.out
        rw [← hxl] at h
        have := isL_own h
        rw [hxl] at this
        exact this
      have hok := HOk.out k.len xs HVx.out
      have HCa := hideP (HNd.out wr _ xs HFw.out hIs hxl hok)
      have hvk := HVx.out
      rw [hfull] at hvk
      rw [← HNo.out xs hvk] at HCa
      obtain ⟨q0, q1, q2, q3, q4, q5⟩ := HNc.out wr HFw.out
      obtain ⟨op, kids, ⟨vk, vn, vs⟩, nm⟩ := n
      simp only [EX.val] at HCa q0 q1 q2 q3 q4 q5
      obtain ⟨rk, rn, rs, rc, hR⟩ := exV_form R
      rw [hR] at HCa
      have HRx := hideP hR
      clear hR
      have hm1 : (0 : Int) < (m9 : Int) + 1 := by omega
      have hm2 : IntKind.i64.wrap ((m9 : Int) + 1 - 1) = (m9 : Int) := by
        simp only [IntKind.wrap]; simp [IntKind.min, IntKind.max, IntKind.signed, IntKind.bits]; omega
      have hm4 : IntKind.i64.wrap (m9 : Int) = (m9 : Int) := by
        simp only [IntKind.wrap]; simp [IntKind.min, IntKind.max, IntKind.signed, IntKind.bits]; omega
      have hm3 : (m9 : Int) < (m9 : Int) + 1 := by omega
      have hm5 : (0 : Int) ≤ (m9 : Int) := by omega
      clear hIs hok hvk hfull
      go_wp2_with fail
      refine HCa.out.mono ?_
      rintro _ w2 ⟨rfl, f2⟩
      have HB4 := hideP (HB3.out.fr f2)
      have HF4 := hideP (HFw.out.trans f2)
      clear f2
      have v0 := HB4.out.cell 0 rfl
      have v1 := HB4.out.cell 1 rfl
      have v2 := HB4.out.cell 2 rfl
      have y0 := HB4.out.frozen 0
      have y1 := HB4.out.frozen 1
      have y2 := HB4.out.frozen 2
      go_wp2_with fail
      refine bodyPost_ret (v := .tuple #[.agg #[.int .i64 rk, .int .i64 rn, .string rs], .int .i64 rc]) ?_ rfl ⟨by rw [HRx.out], HF4.out.put3 (w.heap.size) (by first | exact Nat.le_refl _ | exact Nat.le_succ _) _ _ _⟩
      obtain ⟨r0, r1, r2⟩ : (put3 w2 (w.heap.size) (.int .i64 rk) (.int .i64 rn) (.string rs)).cell? ⟨w.heap.size, 0, none⟩ = _ ∧ (put3 w2 (w.heap.size) (.int .i64 rk) (.int .i64 rn) (.string rs)).cell? ⟨w.heap.size, 1, none⟩ = _ ∧ (put3 w2 (w.heap.size) (.int .i64 rk) (.int .i64 rn) (.string rs)).cell? ⟨w.heap.size, 2, none⟩ = _ := ⟨(HB4.out.put3 _ _ _).cell 0 rfl, (HB4.out.put3 _ _ _).cell 1 rfl, (HB4.out.put3 _ _ _).cell 2 rfl⟩
      change (results Tryz.f35 _).run Tryz.prog (put3 w2 _ _ _ _) = .ok _ (put3 w2 _ _ _ _)
      simp [results, Tryz.results35, go_sem, r0, r1, r2]
theorem voTo (cs : List ByteArray) (row : List VM.Vl) (C : Cols cs row) : ∀ N, VoTo cs row N
  | 0 => fun n k v cv rv W h => absurd h (Nat.not_lt_zero _)
  | N + 1 => fun n k v cv rv W h hg hl hgd hv hc hr => by
    refine valueOf_core cs row C n k v cv rv W ?_ hg hl hgd hv hc hr
    intro n' k' v' cv' rv' W' h'
    exact voTo cs row C N n' k' v' cv' rv' W' (by omega)
theorem valueOf_any (cs : List ByteArray) (row : List VM.Vl) (C : Cols cs row) (n : EX.Nd) (k : EX.F) (v cv rv : Value) (w : World) (hg : (EX.F.nd n k .nil).good) (hl : (k.flat ++ [n]).length ≤ 60) (hgd : ∀ m ∈ k.flat ++ [n], EV.gd m.v) (h : IsL cdN w v (k.flat ++ [n])) (hc : IsL cdB w cv cs) (hr : IsL cdV w rv row) :
    Calls Tryz.prog 35 #[v, cv, rv] w fun r w' => r = .returned (exV (EX.nv (EV.wo (EV.fnd (cs.zip row))) n k)) ∧ Fr w w' := voTo cs row C _ n k v cv rv w (Nat.lt_succ_self _) hg hl hgd h hc hr
end Go.Proofs.YtjljohmflhmkmaaGreatDoor
namespace Go.Proofs.YtjljohmflhmkmaaGreatDoor
open Go.ChangeShapes Go.WideShapes Go.ChangeAt Go.RowKit
set_option linter.unusedVariables false
set_option linter.unusedSimpArgs false
set_option maxRecDepth 100000
set_option maxHeartbeats 2000000
/-- what is wrong with an expression and its columns -/
def EV.scp (e : List EX.Nd) (cs : List ByteArray) (l : List VM.Vl) : Nat := if EX.ck e ≠ 0 then EX.ck e else EV.coE cs l
theorem scopeCheck_any (va ua ra : Value) (e : List EX.Nd) (cs : List ByteArray) (l : List VM.Vl) (w : World) (he : IsL cdN w va e) (hu : IsL cdB w ua cs) (hv : IsL cdV w ra l) (hn : ∀ n ∈ e, n.nm.size ≤ 140737488355327) (hl : e.length ≤ 9223372036854775806) (hcl : cs.length ≤ 9223372036854775806) (hrl : l.length ≤ 9223372036854775806) :
    Calls Tryz.prog 34 #[va, ua, ra] w fun r w' => r = .returned (.int .i64 ((EV.scp e cs l : Nat) : Int)) ∧ Fr w w' := by
  have HX := hideP (rexprCheck_any va e w he hn hl)
  have HV := hideP (fun W (f : Fr w W) => rcheckAll_any ra l W (row_of (hv.fr f)) (by omega))
  have HS : Hid (EV.scp e cs l = if EX.ck e ≠ 0 then EX.ck e else if 8 < cs.length then 2 else if cs.length ≠ l.length then 1 else VM.chkAll l) := rfl
  obtain ⟨a1, c1, rfl, _⟩ := he
  obtain ⟨a2, c2, rfl, _⟩ := hu
  obtain ⟨a3, c3, rfl, _⟩ := hv
  generalize EV.scp e cs l = S at *
  generalize EX.ck e = K at *
  generalize VM.chkAll l = V at *
  generalize cs.length = n2 at *
  generalize l.length = n3 at *
  generalize e.length = n1 at *
  clear hn
  by_cases hk : K = 0
  · subst hk
    replace HS := hideP (HS.out.trans (if_neg (by simp)))
    by_cases h8 : 8 < n2
    · replace HS := hideP (HS.out.trans (if_pos h8))
      have h8' : (8 : Int) < (n2 : Int) := by omega
      go_enter Tryz.func34, Tryz.ntmps34
      go_wp2_with fail
      refine HX.out.mono ?_
      rintro _ w1 ⟨rfl, f1⟩
      go_wp2_with fail
      go_ret
      exact ⟨by rw [HS.out]; rfl, f1⟩
    · replace HS := hideP (HS.out.trans (if_neg h8))
      have h8' : ¬ (8 : Int) < (n2 : Int) := by omega
      by_cases he : n2 = n3
      · subst he
        replace HS := hideP (HS.out.trans (if_neg (by simp)))
        go_enter Tryz.func34, Tryz.ntmps34
        go_wp2_with fail
        refine HX.out.mono ?_
        rintro _ w1 ⟨rfl, f1⟩
        have F1 := hideP f1
        clear f1
        go_wp2_with fail
        refine (HV.out _ F1.out).mono ?_
        rintro _ w2 ⟨rfl, f2⟩
        go_wp2_with fail
        go_ret
        exact ⟨by rw [HS.out]; rfl, F1.out.trans f2⟩
      · replace HS := hideP (HS.out.trans (if_pos he))
        have q1 : ((n2 : Int) != (n3 : Int)) = true := by simp; omega
        have q2 : ¬ (n2 : Int) = (n3 : Int) := by omega
        have q3 : ((n2 : Int) == (n3 : Int)) = false := by simp; omega
        go_enter Tryz.func34, Tryz.ntmps34
        go_wp2_with fail
        refine HX.out.mono ?_
        rintro _ w1 ⟨rfl, f1⟩
        have F1 := hideP f1
        clear f1
        go_wp2_with fail
        go_ret
        exact ⟨by rw [HS.out]; rfl, F1.out⟩
  · replace HS := hideP (HS.out.trans (if_pos hk))
    have q1 : ((K : Int) != 0) = true := by simp; omega
    have q2 : ¬ (K : Int) = 0 := by omega
    go_enter Tryz.func34, Tryz.ntmps34
    go_wp2_with fail
    refine HX.out.mono ?_
    rintro _ w1 ⟨rfl, f1⟩
    go_wp2_with fail
    go_ret
    exact ⟨by rw [HS.out]; rfl, f1⟩
theorem EV.ev_scp {e : List EX.Nd} {cs : List ByteArray} {l : List VM.Vl} (h : EV.scp e cs l ≠ 0) : EV.ev e cs l = .error (EV.scp e cs l) := by
  unfold EV.scp at *
  unfold EV.ev
  by_cases hk : EX.ck e ≠ 0
  · rw [if_pos hk, if_pos hk]
  · rw [if_neg hk] at h ⊢
    rw [if_neg hk, if_pos h]
theorem EV.scp_zero {e : List EX.Nd} {cs : List ByteArray} {l : List VM.Vl} (h : EV.scp e cs l = 0) : EX.ck e = 0 ∧ EV.coE cs l = 0 := by
  unfold EV.scp at h
  by_cases hk : EX.ck e ≠ 0
  · rw [if_pos hk] at h; exact absurd h hk
  · rw [if_neg hk] at h
    exact ⟨by omega, h⟩
theorem evalOf_any (va ua ra : Value) (e : List EX.Nd) (cs : List ByteArray) (l : List VM.Vl) (w : World) (he : IsL cdN w va e) (hu : IsL cdB w ua cs) (hv : IsL cdV w ra l) (hn : ∀ n ∈ e, n.nm.size ≤ 140737488355327) (hl : e.length ≤ 9223372036854775806) (hcl : cs.length ≤ 9223372036854775806) (hrl : l.length ≤ 9223372036854775806) (hgn : ∀ n ∈ e, EV.gd n.v) (hgl : ∀ x ∈ l, EV.gd x) :
    Calls Tryz.prog 14 #[va, ua, ra] w fun r w' => r = .returned (exV (EV.ev e cs l)) ∧ Fr w w' := by
  have HS := hideP (fun W (f : Fr w W) => scopeCheck_any va ua ra e cs l W (he.fr f) (hu.fr f) (hv.fr f) hn hl hcl hrl)
  have HVo := hideP (fun W (f : Fr w W) (h0 : EV.scp e cs l = 0) => show Calls Tryz.prog 35 #[va, ua, ra] W (fun r w' => r = .returned (exV (EV.ev e cs l)) ∧ Fr W w') from by
    obtain ⟨hck, hco⟩ := EV.scp_zero h0
    obtain ⟨n, k, rfl, hg, hd, hl60⟩ := EX.ck_tree hck
    rw [EV.ev_nv hg hck hco]
    obtain ⟨c1, c2, c3⟩ := EV.coE_ok hco
    exact valueOf_any cs l ⟨c1, c2, c3, hgl⟩ n k va ua ra W hg hl60 hgn (he.fr f) (hu.fr f) (hv.fr f))
  have HEr := hideP (fun (h : EV.scp e cs l ≠ 0) => EV.ev_scp h)
  obtain ⟨a1, n1, c1, rfl⟩ : ∃ a n c, va = .slice a n c := by obtain ⟨a, c, h, _⟩ := he; exact ⟨a, _, c, h⟩
  obtain ⟨a2, n2, c2, rfl⟩ : ∃ a n c, ua = .slice a n c := by obtain ⟨a, c, h, _⟩ := hu; exact ⟨a, _, c, h⟩
  obtain ⟨a3, n3, c3, rfl⟩ : ∃ a n c, ra = .slice a n c := by obtain ⟨a, c, h, _⟩ := hv; exact ⟨a, _, c, h⟩
  clear he hu hv hn hl hcl hrl hgn hgl
  generalize EV.scp e cs l = S at *
  generalize EV.ev e cs l = D at *
  have HB1 := hideP (Blk.new w #[.int .i64 0, .int .i64 0, .string ⟨#[]⟩] 26)
  have HF0 := hideP ((Fr.refl w).alloc (.cells #[.int .i64 0, .int .i64 0, .string ⟨#[]⟩] 26))
  go_enter Tryz.func14, Tryz.ntmps14
  go_wp2_with fail
  generalize w.alloc (.cells #[.int .i64 0, .int .i64 0, .string ⟨#[]⟩] 26) = W0 at *
  refine (HS.out _ HF0.out).mono ?_
  rintro _ w1 ⟨rfl, f1⟩
  have HB2 := hideP (HB1.out.fr f1)
  have HF1 := hideP (HF0.out.trans f1)
  clear f1
  by_cases h0 : S = 0
  · subst h0
    obtain ⟨rk, rn, rs, rc, hR⟩ := exV_form D
    rw [hR] at HVo
    have HRx := hideP hR
    clear hR
    go_wp2_with fail
    refine (HVo.out _ HF1.out (by trivial)).mono ?_
    rintro _ w2 ⟨rfl, f2⟩
    have HB4 := hideP (HB2.out.fr f2)
    have HF4 := hideP (HF1.out.trans f2)
    clear f2
    have v0 := HB4.out.cell 0 rfl
    have v1 := HB4.out.cell 1 rfl
    have v2 := HB4.out.cell 2 rfl
    have y0 := HB4.out.frozen 0
    have y1 := HB4.out.frozen 1
    have y2 := HB4.out.frozen 2
    go_wp2_with fail
    refine bodyPost_ret (v := .tuple #[.agg #[.int .i64 rk, .int .i64 rn, .string rs], .int .i64 rc]) ?_ rfl ⟨by rw [HRx.out], HF4.out.put3 (w.heap.size) (by first | exact Nat.le_refl _ | exact Nat.le_succ _) _ _ _⟩
    obtain ⟨r0, r1, r2⟩ : (put3 w2 (w.heap.size) (.int .i64 rk) (.int .i64 rn) (.string rs)).cell? ⟨w.heap.size, 0, none⟩ = _ ∧ (put3 w2 (w.heap.size) (.int .i64 rk) (.int .i64 rn) (.string rs)).cell? ⟨w.heap.size, 1, none⟩ = _ ∧ (put3 w2 (w.heap.size) (.int .i64 rk) (.int .i64 rn) (.string rs)).cell? ⟨w.heap.size, 2, none⟩ = _ := ⟨(HB4.out.put3 _ _ _).cell 0 rfl, (HB4.out.put3 _ _ _).cell 1 rfl, (HB4.out.put3 _ _ _).cell 2 rfl⟩
    change (results Tryz.f14 _).run Tryz.prog (put3 w2 _ _ _ _) = .ok _ (put3 w2 _ _ _ _)
    simp [results, Tryz.results14, go_sem, r0, r1, r2]
  · have HZ := hideP (HEr.out h0)
    have e1 : ((S : Int) != 0) = true := by simp; omega
    have e2 : ¬ ((S : Int) = 0) := by omega
    have v0 := HB2.out.cell 0 rfl
    have v1 := HB2.out.cell 1 rfl
    have v2 := HB2.out.cell 2 rfl
    have y0 := HB2.out.frozen 0
    have y1 := HB2.out.frozen 1
    have y2 := HB2.out.frozen 2
    go_wp2_with fail
    refine bodyPost_ret (v := .tuple #[.agg #[.int .i64 0, .int .i64 0, .string ⟨#[]⟩], .int .i64 (S : Int)]) ?_ rfl ⟨by rw [HZ.out]; rfl, HF1.out.put3 (w.heap.size) (by first | exact Nat.le_refl _ | exact Nat.le_succ _) _ _ _⟩
    obtain ⟨r0, r1, r2⟩ : (put3 w1 (w.heap.size) (.int .i64 0) (.int .i64 0) (.string ⟨#[]⟩)).cell? ⟨w.heap.size, 0, none⟩ = _ ∧ (put3 w1 (w.heap.size) (.int .i64 0) (.int .i64 0) (.string ⟨#[]⟩)).cell? ⟨w.heap.size, 1, none⟩ = _ ∧ (put3 w1 (w.heap.size) (.int .i64 0) (.int .i64 0) (.string ⟨#[]⟩)).cell? ⟨w.heap.size, 2, none⟩ = _ := ⟨(HB2.out.put3 _ _ _).cell 0 rfl, (HB2.out.put3 _ _ _).cell 1 rfl, (HB2.out.put3 _ _ _).cell 2 rfl⟩
    change (results Tryz.f14 _).run Tryz.prog (put3 w1 _ _ _ _) = .ok _ (put3 w1 _ _ _ _)
    simp [results, Tryz.results14, go_sem, r0, r1, r2]
theorem EV.ev_kind {e : List EX.Nd} {cs : List ByteArray} {l : List VM.Vl} {v : VM.Vl} (h : EV.ev e cs l = .ok v) : v.k ≤ 3 := by
  obtain ⟨hck, hco⟩ := EV.ev_ok h
  obtain ⟨n, k, rfl, hg, hd, hl60⟩ := EX.ck_tree hck
  obtain ⟨c1, c2, c3⟩ := EV.coE_ok hco
  rw [EV.ev_nv hg hck hco] at h
  exact (EV.chk_kind (EV.nv_chk (fun s y h => EV.fnd_chk c3 s y h) hg.1 h)).2
theorem truthFor_any (va ua ra : Value) (e : List EX.Nd) (cs : List ByteArray) (l : List VM.Vl) (w : World) (he : IsL cdN w va e) (hu : IsL cdB w ua cs) (hv : IsL cdV w ra l) (hn : ∀ n ∈ e, n.nm.size ≤ 140737488355327) (hl : e.length ≤ 9223372036854775806) (hcl : cs.length ≤ 9223372036854775806) (hrl : l.length ≤ 9223372036854775806) (hgn : ∀ n ∈ e, EV.gd n.v) (hgl : ∀ x ∈ l, EV.gd x) :
    Calls Tryz.prog 17 #[va, ua, ra] w fun r w' => r = .returned (exT (EV.tru e cs l)) ∧ Fr w w' := by
  have HK : Hid (EV.tru e cs l = match EV.ev e cs l with
    | .error c => .error c
    | .ok v => EV.tr v) := rfl
  have HE := hideP (evalOf_any va ua ra e cs l w he hu hv hn hl hcl hrl hgn hgl)
  have HNe := hideP (fun c (h : EV.ev e cs l = .error c) => EV.ev_ne h)
  have HKd := hideP (fun v (h : EV.ev e cs l = .ok v) => EV.ev_kind h)
  obtain ⟨a1, n1, c1, rfl⟩ : ∃ a n c, va = .slice a n c := by obtain ⟨a, c, h, _⟩ := he; exact ⟨a, _, c, h⟩
  obtain ⟨a2, n2, c2, rfl⟩ : ∃ a n c, ua = .slice a n c := by obtain ⟨a, c, h, _⟩ := hu; exact ⟨a, _, c, h⟩
  obtain ⟨a3, n3, c3, rfl⟩ : ∃ a n c, ra = .slice a n c := by obtain ⟨a, c, h, _⟩ := hv; exact ⟨a, _, c, h⟩
  clear he hu hv hn hl hcl hrl hgn hgl
  generalize EV.tru e cs l = R at *
  generalize EV.ev e cs l = D at *
  cases D with
  | error c =>
    have h0 := HNe.out c rfl
    replace HK := hideP (show R = .error c from HK.out)
    simp only [exV, vlV] at HE
    have e1 : ((c : Int) != 0) = true := by simp; omega
    have e2 : ¬ ((c : Int) = 0) := by omega
    go_enter Tryz.func17, Tryz.ntmps17
    go_wp2_with fail
    refine HE.out.mono ?_
    rintro _ w1 ⟨rfl, f1⟩
    go_wp2_with fail
    go_ret2
    exact ⟨by rw [HK.out]; rfl, f1.alloc _⟩
  | ok x =>
    replace HK := hideP (show R = EV.tr x from HK.out)
    simp only [exV, vlV] at HE
    have HT := hideP (fun W => rtruthOf_any x (HKd.out x rfl) W)
    simp only [vlV] at HT
    obtain ⟨p, q, hpq⟩ : ∃ p q, exT (EV.tr x) = .tuple #[.int .i64 p, .int .i64 q] := by
      cases EV.tr x with
      | ok y => exact ⟨_, _, rfl⟩
      | error c => exact ⟨_, _, rfl⟩
    rw [hpq] at HT
    go_enter Tryz.func17, Tryz.ntmps17
    go_wp2_with fail
    refine HE.out.mono ?_
    rintro _ w1 ⟨rfl, f1⟩
    go_wp2_with fail
    refine (HT.out _).mono ?_
    rintro _ w2 ⟨rfl, f2⟩
    go_wp2_with fail
    go_ret2
    exact ⟨by rw [HK.out, hpq]; rfl, (f1.alloc _).trans f2⟩
end Go.Proofs.YtjljohmflhmkmaaGreatDoor
namespace Go.Proofs.YtjljohmflhmkmaaGreatDoor
open Go.ChangeShapes Go.WideShapes Go.ChangeAt Go.RowKit
set_option linter.unusedVariables false
set_option linter.unusedSimpArgs false
set_option maxRecDepth 100000
set_option maxHeartbeats 4000000
theorem hasCols_any (v : Value) (e : List EX.Nd) (w : World) (h : IsL cdN w v e) (hl : e.length ≤ 60) :
    Calls Tryz.prog 49 #[v] w fun r w' => r = .returned (.bool (EV.hc e)) ∧ w' = w := by
  obtain ⟨a, cap, rfl, hcap, hcs⟩ := h
  have HC := hideP hcs
  clear hcs
  obtain ⟨R, hR⟩ : ∃ R, EV.hc e = R := ⟨_, rfl⟩
  have HR := hideP hR
  rw [hR]
  clear hR
  go_enter Tryz.func49, Tryz.ntmps49
  go_wp2_with fail
  go_loop [3] (fun iv => ∃ i : Nat, iv = .int .i64 i ∧ i ≤ e.length ∧ R = EV.hc (e.drop i)) (fun iv => e.length - (intOf iv).toNat)
  case atStart => exact ⟨0, rfl, Nat.zero_le _, HR.out.symm⟩
  case round =>
    obtain ⟨i, rfl, hi, hf⟩ := hrel
    by_cases hlt : i < e.length
    · have hlt' : (i : Int) < (e.length : Int) := by omega
      obtain ⟨b, o, rfl, hb, hat⟩ : ∃ b o, a = some ⟨b, o, none⟩ ∧ b < w.heap.size ∧ At cdN w b o e := by
        rcases HC.out with h | h
        · rw [h] at hlt; simp at hlt
        · exact h
      have d0 := (hat.nd i hlt).1
      have hd : EV.hc (e.drop i) = (decide (e[i].op = 2) || EV.hc (e.drop (i + 1))) := by
        unfold EV.hc
        rw [List.drop_eq_getElem_cons hlt, List.any_cons]
      rw [hd] at hf
      have HFm := hideP hf
      clear hd hat hf
      generalize e[i].op = op at *
      by_cases h2 : op = 2
      · subst h2
        go_wp2_with fail
        go_ret
        exact ⟨by rw [HFm.out]; rfl, rfl⟩
      · have q : (op == 2) = false := by simpa using h2
        have HFm2 := hideP (show R = EV.hc (e.drop (i + 1)) by rw [HFm.out, decide_eq_false h2, Bool.false_or])
        clear HFm h2
        go_wp2_with fail
        go_round
        case rel => exact ⟨i + 1, by go_num, by omega, HFm2.out⟩
        case measure => simp [intOf]; omega
    · obtain rfl : i = e.length := by omega
      have HZ := hideP (show R = false by rw [hf, List.drop_length]; rfl)
      clear hf
      go_wp2_with fail
      go_ret
      exact ⟨by rw [HZ.out]; rfl, rfl⟩
def FdAns (n : EX.Nd) (k : EX.F) (B : Nat) (r : Ending) (w' : World) : Prop := ∃ u, r = .returned u ∧ w'.ownsRow B 38 6 u (EV.ff (.nd n k .nil)).flat.length (flat cdN (EV.ff (.nd n k .nil)).flat)
def FdTo (N : Nat) : Prop := ∀ (n : EX.Nd) (k : EX.F) (v : Value) (W : World), (k.flat ++ [n]).length < N → (EX.F.nd n k .nil).good → (k.flat ++ [n]).length ≤ 60 → (∀ m ∈ k.flat ++ [n], EV.gd m.v) → IsL cdN W v (k.flat ++ [n]) →
  Calls Tryz.prog 25 #[v] W fun r w' => FdAns n k W.heap.size r w' ∧ Fr W w'
theorem foldOf_core (n : EX.Nd) (k : EX.F) (v : Value) (w : World) (HP : FdTo (k.flat ++ [n]).length) (hg : (EX.F.nd n k .nil).good) (hl : (k.flat ++ [n]).length ≤ 60) (hgd : ∀ m ∈ k.flat ++ [n], EV.gd m.v) (h : IsL cdN w v (k.flat ++ [n])) :
    Calls Tryz.prog 25 #[v] w fun r w' => FdAns n k w.heap.size r w' ∧ Fr w w' := by
  obtain ⟨i0, hi0, hz0, hz1, hz2⟩ := info_parts Tryz.infoN
  have HHc := hideP (fun W (f : Fr w W) => hasCols_any v (k.flat ++ [n]) W (h.fr f) hl)
  have HVo := hideP (fun W (f : Fr w W) => valueOf_any [] [] ⟨by simp, rfl, rfl, fun x hx => by simp at hx⟩ n k v (.slice none 0 0) (.slice none 0 0) W hg hl hgd (h.fr f) (isL_nil _ _) (isL_nil _ _))
  rw [show EV.fnd (([] : List ByteArray).zip ([] : List VM.Vl)) = EV.non from rfl] at HVo
  have HK := hideP (fun W (f : Fr w W) => exprKids_any n k v W hg hl (h.fr f))
  have hlk : k.len ≤ 7 := by
    have hkm : n.kids ≤ 7 := by
      have hn := hg.1
      unfold EX.nchk at hn
      split at hn
      · cases hn
      split at hn
      · cases hn
      · rename_i h1 h2
        have : EX.km n.op ≤ 7 := by unfold EX.km; repeat' split <;> omega
        omega
    have := hg.2.1
    omega
  have hpl := EX.F.parts_len k
  have hkf : k.flat.length + 1 ≤ 60 := by simpa using hl
  have HSt : Hid (∀ m, m < k.len → ∃ n' k', (EV.ff (EX.F.take (m + 1) k)).flat = (EV.ff (EX.F.take m k)).flat ++ (EV.ff (.nd n' k' .nil)).flat ∧ k.parts[m]? = some (k'.flat ++ [n']) ∧ ∀ (u : Value) W, IsL cdN W u (k'.flat ++ [n']) → Calls Tryz.prog 25 #[u] W fun r w' => FdAns n' k' W.heap.size r w' ∧ Fr W w') := by
    intro m hm
    obtain ⟨n', k', h1, h2, h3⟩ := EX.take_succ m k hm hg.2.2.1
    have hk : k.flat = (EX.F.take m k).flat ++ (k'.flat ++ [n']) ++ (EX.F.drop (m + 1) k).flat := by
      have hf : (EX.F.take (m + 1) k).flat = (EX.F.take m k).flat ++ (k'.flat ++ [n']) := by rw [h1, EX.F.flat_app]; rfl
      rw [← hf, ← EX.F.flat_app, EX.F.take_drop]
    have hlen := congrArg List.length hk
    simp only [List.length_append, List.length_cons, List.length_nil] at hlen hl
    refine ⟨n', k', EV.ff_next h1, h3, fun u W hu => ?_⟩
    exact HP n' k' u W (by simp only [List.length_append, List.length_cons, List.length_nil]; omega) h2 (by simp only [List.length_append, List.length_cons, List.length_nil]; omega) (fun m hm => hgd m (by rw [hk]; simp only [List.mem_append] at hm ⊢; exact .inl (.inl (.inr hm)))) hu
  have HLe := hideP (fun m => show (EV.ff (EX.F.take m k)).flat.length ≤ 60 from by
    have h1 := EV.ff_flat (EX.F.take m k)
    have h2 := congrArg List.length (show (EX.F.take m k).flat ++ (EX.F.drop m k).flat = k.flat by rw [← EX.F.flat_app, EX.F.take_drop])
    rw [List.length_append] at h2
    omega)
  have hfull := EX.take_full k
  have HNe := hideP (fun (c : Nat) (h : EX.nv (EV.wo EV.non) n k = .error c) => EX.nv_ne (fun n l c h => EV.wo_ne h) h)
  have HDoc := hideP (EV.ff_doc n k)
  unfold FdAns at *
  generalize (EV.ff (.nd n k .nil)).flat = T at *
  generalize EV.hc (k.flat ++ [n]) = hcB at *
  generalize EX.nv (EV.wo EV.non) n k = D at *
  obtain ⟨a, cap, rfl, hcap, hcs⟩ := h
  obtain ⟨b, o, rfl, hb, hat⟩ : ∃ b o, a = some ⟨b, o, none⟩ ∧ b < w.heap.size ∧ At cdN w b o (k.flat ++ [n]) := by
    rcases hcs with h | h
    · simp at h
    · exact h
  have HNc := hideP (fun W (f : Fr w W) => (hat.fr hb f).nd k.flat.length (by simp))
  simp only [List.getElem_concat_length] at HNc
  have hll : (k.flat ++ [n]).length = k.flat.length + 1 := by simp
  rw [hll] at hcap HK HHc HVo ⊢
  obtain ⟨m9, hm9⟩ : ∃ m9, k.flat.length = m9 := ⟨_, rfl⟩
  have hm10 : m9 ≤ 60 := by omega
  rw [hm9] at hcap HK HNc HHc HVo ⊢
  have HFk := hideP hfull
  clear hcs hat HP hgd hl hll hm9 hkf hfull
  go_enter Tryz.func25, Tryz.ntmps25
  go_wp2_with fail
  refine (HHc.out _ (Fr.refl _)).mono ?_
  rintro _ w0 ⟨rfl, hw0⟩
  have FT0 := hideP (show Fr w w0 by rw [hw0]; exact Fr.refl w)
  clear hw0
  cases hcB with
  | true =>
    have HDx := hideP (HDoc.out.trans (if_neg (by decide)))
    have HTt := hideP (show T = (EV.ff k).flat ++ [n] from HDx.out)
    clear HDoc
    go_wp2_with fail
    refine (HK.out _ FT0.out).mono ?_
    rintro _ w3 ⟨⟨u, rfl, hLL⟩, f3⟩
    have HLL := hideP hLL
    obtain ⟨au, cu, rfl⟩ : ∃ a c, u = .slice a k.len c := by
      obtain ⟨qs, ⟨a, c, e, _⟩, hq, _⟩ := hLL
      exact ⟨a, c, by rw [e, hq, hpl]⟩
    have HF3 := hideP (FT0.out.trans f3)
    clear hLL f3
    go_wp2_with fail
    go_loopw [5, 7] (fun ov iv wr => ∃ i : Nat, iv = .int .i64 i ∧ i ≤ k.len ∧ wr.ownsRow w3.heap.size 38 6 ov (EV.ff (EX.F.take i k)).flat.length (flat cdN (EV.ff (EX.F.take i k)).flat) ∧ Fr w3 wr) (fun _ iv _ => k.len - (intOf iv).toNat)
    case atStart => exact ⟨0, rfl, Nat.zero_le _, World.ownsRow_nil _ _ _ _, Fr.refl _⟩
    case round =>
      obtain ⟨i, rfl, hi, hown, hfr⟩ := hrel
      obtain ⟨fa, fc, rfl⟩ := own_slice hown
      have HO := hideP hown
      have HF := hideP hfr
      have HFw := hideP (HF3.out.trans hfr)
      clear hown hfr
      by_cases hlt : i < k.len
      · have hlt' : (i : Int) < (k.len : Int) := by omega
        obtain ⟨g, og, cg, qs, hq, e9, hcg, hcell, hIs⟩ := ll_cellM HLL.out (by rw [hpl]; omega)
        rw [hpl] at e9 hcg
        simp only [Value.slice.injEq] at e9
        obtain ⟨rfl, _, rfl⟩ := e9
        obtain ⟨n', k', ht, hpt, hcall⟩ := HSt.out i hlt
        have hiq : i < qs.length := by rw [hq, hpl]; exact hlt
        have d0 := (Below.cell HF.out (World.block_lt_of_cell? _ _ (hcell i hiq))).trans (hcell i hiq)
        have hIs2 : IsL cdN wr qs[i].v (k'.flat ++ [n']) := by
          have h2 : i < k.parts.length := by rw [hpl]; exact hlt
          have := (hIs i hiq h2).fr HF.out
          have e : k.parts[i] = k'.flat ++ [n'] := by
            rw [List.getElem?_eq_getElem h2] at hpt
            injection hpt
          rw [e] at this
          exact this
        have HCa := hideP (hcall qs[i].v wr hIs2)
        have l1 := HLe.out i
        have l2 := HLe.out (i + 1)
        have HLn := hideP (congrArg List.length ht)
        rw [List.length_append] at HLn
        have HTn := hideP ht
        unfold Sl.v at HCa
        generalize qs[i].a = qa at *
        generalize qs[i].n = qn at *
        generalize qs[i].c = qc at *
        clear hcell hIs hIs2 hcall ht hpt hiq hq
        generalize (EV.ff (EX.F.take i k)).flat = Ti at *
        generalize (EV.ff (.nd n' k' .nil)).flat = Tn at *
        obtain ⟨li, hli⟩ : ∃ li, Ti.length = li := ⟨_, rfl⟩
        obtain ⟨ln, hln⟩ : ∃ ln, Tn.length = ln := ⟨_, rfl⟩
        rw [hli] at HO HLn l1 ⊢
        rw [hln] at HCa HLn
        have hsum : li + ln ≤ 60 := by have := HLn.out; omega
        have HLi := hideP hli
        have HLm := hideP hln
        clear hli hln
        go_wp2_with fail
        refine HCa.out.mono ?_
        rintro _ w5 ⟨⟨u5, rfl, own5⟩, f5⟩
        obtain ⟨ua, uc, rfl⟩ := own_slice own5
        have HI5 := hideP (show IsL cdN w5 (.slice ua ln uc) Tn from isL_own (E := cdN) (by rw [HLm.out]; exact own5))
        have HO5 := hideP (own_fr HO.out f5)
        have F5 := hideP (HF.out.trans f5)
        have hsz : w.heap.size ≤ w5.heap.size := Nat.le_trans HFw.out.size f5.size
        have hsw : w3.heap.size ≤ w5.heap.size := F5.out.size
        clear f5 own5
        go_wp2_with (at_builtin; refine wpList_append_L cdN rfl _ _ 22 38 i0 _ 64 rfl Tryz.underlying22 hi0 hz0 hz1 hz2 rfl w3.heap.size _ li _ rfl HO5.out (.slice ua ln uc) Tn rfl HI5.out ?c3 ?c4 ?c5 ?_)
        case c3 => rw [HLm.out]; unfold maxLen; omega
        case c4 => rw [HLm.out]; omega
        case c5 => exact hsw
        intro v2 wB own2 gr2
        rw [HLm.out] at own2
        have HN2 := hideP own2
        have FB := hideP (show Fr w3 wB from Below.grown F5.out gr2 (by omega) (own_base HO5.out))
        clear own2 gr2
        go_wp2_with fail
        go_roundw
        case rel => exact ⟨i + 1, by go_num, by omega, by rw [HTn.out, List.length_append, HLi.out, HLm.out]; exact HN2.out, FB.out⟩
        case measure => simp [intOf]; omega
      · obtain rfl : i = k.len := by omega
        have hlt' : ((k.len : Int) < (k.len : Int)) = False := by simp
        have l1 := HLe.out k.len
        rw [HFk.out] at HO l1 ⊢
        generalize (EV.ff k).flat = Tk at *
        obtain ⟨lk, hlk9⟩ : ∃ lk, Tk.length = lk := ⟨_, rfl⟩
        rw [hlk9] at HO l1 ⊢
        have HLk := hideP hlk9
        obtain ⟨q0, q1, q2, q3, q4, q5⟩ := HNc.out wr HFw.out
        obtain ⟨op, kids, ⟨vk, vn, vs⟩, nm⟩ := n
        simp only at q0 q1 q2 q3 q4 q5
        have hm1 : (0 : Int) < (m9 : Int) + 1 := by omega
        have hm2 : IntKind.i64.wrap ((m9 : Int) + 1 - 1) = (m9 : Int) := by
          simp only [IntKind.wrap]; simp [IntKind.min, IntKind.max, IntKind.signed, IntKind.bits]; omega
        have hm4 : IntKind.i64.wrap (m9 : Int) = (m9 : Int) := by
          simp only [IntKind.wrap]; simp [IntKind.min, IntKind.max, IntKind.signed, IntKind.bits]; omega
        have hm3 : (m9 : Int) < (m9 : Int) + 1 := by omega
        have hm5 : (0 : Int) ≤ (m9 : Int) := by omega
        have HLit := hideP (lit_one cdN wr ⟨op, kids, ⟨vk, vn, vs⟩, nm⟩ 38)
        have HO5 := hideP (own_fr HO.out ((Fr.refl wr).alloc (.cells #[.int .i64 op, .int .i64 kids, .int .i64 vk, .int .i64 vn, .string vs, .string nm] 38)))
        have hsz : w3.heap.size ≤ wr.heap.size := HF.out.size
        have hs3 : w.heap.size ≤ w3.heap.size := HF3.out.size
        clear hlk9
        go_wp2_with (at_builtin; refine wpList_append_L cdN rfl _ _ 22 38 i0 _ 64 rfl Tryz.underlying22 hi0 hz0 hz1 hz2 rfl w3.heap.size _ lk _ rfl HO5.out (.slice (some ⟨wr.heap.size, 0, none⟩) 1 1) [⟨op, kids, ⟨vk, vn, vs⟩, nm⟩] rfl HLit.out ?c3 ?c4 ?c5 ?_)
        case c3 => show lk + 1 ≤ maxLen; unfold maxLen; omega
        case c4 => show (lk + 1) * 64 ≤ 140737488355328; omega
        case c5 => first | exact hsz | exact Nat.le_succ_of_le hsz | exact Nat.le_trans hsz (Nat.le_succ _) | omega
        intro v2 wB own2 gr2
        have HN2 := hideP own2
        have FB := hideP (show Fr w wB from HF3.out.trans (Below.grown (HF.out.alloc _) gr2 (by simp <;> omega) (own_base HO5.out)))
        clear own2 gr2
        go_wp2_with fail
        go_ret
        refine ⟨⟨_, rfl, ?_⟩, FB.out⟩
        rw [HTt.out, List.length_append, HLk.out]
        exact own_low HN2.out hs3
  | false =>
    replace HDoc := hideP (HDoc.out.trans (if_pos rfl))
    cases D with
    | error c =>
      have HDx := hideP (show T = (EV.ff k).flat ++ [n] from HDoc.out)
      have hne := HNe.out c rfl
      have e1 : ((c : Int) == 0) = false := by simp; omega
      have e2 : ¬ ((c : Int) = 0) := by omega
      simp only [exV, vlV] at HVo
      go_wp2_with fail
      refine (HVo.out _ FT0.out).mono ?_
      rintro _ w1 ⟨rfl, f1⟩
      have FT1 := hideP (FT0.out.trans <| f1.alloc (.cells #[.int .i64 EX.nul.k, .int .i64 EX.nul.n, .string EX.nul.s] 26))
      clear f1
      have HTt := hideP (show T = (EV.ff k).flat ++ [n] from HDx.out)
      clear HDoc
      go_wp2_with fail
      refine (HK.out _ FT1.out).mono ?_
      rintro _ w3 ⟨⟨u, rfl, hLL⟩, f3⟩
      have HLL := hideP hLL
      obtain ⟨au, cu, rfl⟩ : ∃ a c, u = .slice a k.len c := by
        obtain ⟨qs, ⟨a, c, e, _⟩, hq, _⟩ := hLL
        exact ⟨a, c, by rw [e, hq, hpl]⟩
      have HF3 := hideP (FT1.out.trans f3)
      clear hLL f3
      go_wp2_with fail
      go_loopw [5, 7] (fun ov iv wr => ∃ i : Nat, iv = .int .i64 i ∧ i ≤ k.len ∧ wr.ownsRow w3.heap.size 38 6 ov (EV.ff (EX.F.take i k)).flat.length (flat cdN (EV.ff (EX.F.take i k)).flat) ∧ Fr w3 wr) (fun _ iv _ => k.len - (intOf iv).toNat)
      case atStart => exact ⟨0, rfl, Nat.zero_le _, World.ownsRow_nil _ _ _ _, Fr.refl _⟩
      case round =>
        obtain ⟨i, rfl, hi, hown, hfr⟩ := hrel
        obtain ⟨fa, fc, rfl⟩ := own_slice hown
        have HO := hideP hown
        have HF := hideP hfr
        have HFw := hideP (HF3.out.trans hfr)
        clear hown hfr
        by_cases hlt : i < k.len
        · have hlt' : (i : Int) < (k.len : Int) := by omega
          obtain ⟨g, og, cg, qs, hq, e9, hcg, hcell, hIs⟩ := ll_cellM HLL.out (by rw [hpl]; omega)
          rw [hpl] at e9 hcg
          simp only [Value.slice.injEq] at e9
          obtain ⟨rfl, _, rfl⟩ := e9
          obtain ⟨n', k', ht, hpt, hcall⟩ := HSt.out i hlt
          have hiq : i < qs.length := by rw [hq, hpl]; exact hlt
          have d0 := (Below.cell HF.out (World.block_lt_of_cell? _ _ (hcell i hiq))).trans (hcell i hiq)
          have hIs2 : IsL cdN wr qs[i].v (k'.flat ++ [n']) := by
            have h2 : i < k.parts.length := by rw [hpl]; exact hlt
            have := (hIs i hiq h2).fr HF.out
            have e : k.parts[i] = k'.flat ++ [n'] := by
              rw [List.getElem?_eq_getElem h2] at hpt
              injection hpt
            rw [e] at this
            exact this
          have HCa := hideP (hcall qs[i].v wr hIs2)
          have l1 := HLe.out i
          have l2 := HLe.out (i + 1)
          have HLn := hideP (congrArg List.length ht)
          rw [List.length_append] at HLn
          have HTn := hideP ht
          unfold Sl.v at HCa
          generalize qs[i].a = qa at *
          generalize qs[i].n = qn at *
          generalize qs[i].c = qc at *
          clear hcell hIs hIs2 hcall ht hpt hiq hq
          generalize (EV.ff (EX.F.take i k)).flat = Ti at *
          generalize (EV.ff (.nd n' k' .nil)).flat = Tn at *
          obtain ⟨li, hli⟩ : ∃ li, Ti.length = li := ⟨_, rfl⟩
          obtain ⟨ln, hln⟩ : ∃ ln, Tn.length = ln := ⟨_, rfl⟩
          rw [hli] at HO HLn l1 ⊢
          rw [hln] at HCa HLn
          have hsum : li + ln ≤ 60 := by have := HLn.out; omega
          have HLi := hideP hli
          have HLm := hideP hln
          clear hli hln
          go_wp2_with fail
          refine HCa.out.mono ?_
          rintro _ w5 ⟨⟨u5, rfl, own5⟩, f5⟩
          obtain ⟨ua, uc, rfl⟩ := own_slice own5
          have HI5 := hideP (show IsL cdN w5 (.slice ua ln uc) Tn from isL_own (E := cdN) (by rw [HLm.out]; exact own5))
          have HO5 := hideP (own_fr HO.out f5)
          have F5 := hideP (HF.out.trans f5)
          have hsz : w.heap.size ≤ w5.heap.size := Nat.le_trans HFw.out.size f5.size
          have hsw : w3.heap.size ≤ w5.heap.size := F5.out.size
          clear f5 own5
          go_wp2_with (at_builtin; refine wpList_append_L cdN rfl _ _ 22 38 i0 _ 64 rfl Tryz.underlying22 hi0 hz0 hz1 hz2 rfl w3.heap.size _ li _ rfl HO5.out (.slice ua ln uc) Tn rfl HI5.out ?c3 ?c4 ?c5 ?_)
          case c3 => rw [HLm.out]; unfold maxLen; omega
          case c4 => rw [HLm.out]; omega
          case c5 => exact hsw
          intro v2 wB own2 gr2
          rw [HLm.out] at own2
          have HN2 := hideP own2
          have FB := hideP (show Fr w3 wB from Below.grown F5.out gr2 (by omega) (own_base HO5.out))
          clear own2 gr2
          go_wp2_with fail
          go_roundw
          case rel => exact ⟨i + 1, by go_num, by omega, by rw [HTn.out, List.length_append, HLi.out, HLm.out]; exact HN2.out, FB.out⟩
          case measure => simp [intOf]; omega
        · obtain rfl : i = k.len := by omega
          have hlt' : ((k.len : Int) < (k.len : Int)) = False := by simp
          have l1 := HLe.out k.len
          rw [HFk.out] at HO l1 ⊢
          generalize (EV.ff k).flat = Tk at *
          obtain ⟨lk, hlk9⟩ : ∃ lk, Tk.length = lk := ⟨_, rfl⟩
          rw [hlk9] at HO l1 ⊢
          have HLk := hideP hlk9
          obtain ⟨q0, q1, q2, q3, q4, q5⟩ := HNc.out wr HFw.out
          obtain ⟨op, kids, ⟨vk, vn, vs⟩, nm⟩ := n
          simp only at q0 q1 q2 q3 q4 q5
          have hm1 : (0 : Int) < (m9 : Int) + 1 := by omega
          have hm2 : IntKind.i64.wrap ((m9 : Int) + 1 - 1) = (m9 : Int) := by
            simp only [IntKind.wrap]; simp [IntKind.min, IntKind.max, IntKind.signed, IntKind.bits]; omega
          have hm4 : IntKind.i64.wrap (m9 : Int) = (m9 : Int) := by
            simp only [IntKind.wrap]; simp [IntKind.min, IntKind.max, IntKind.signed, IntKind.bits]; omega
          have hm3 : (m9 : Int) < (m9 : Int) + 1 := by omega
          have hm5 : (0 : Int) ≤ (m9 : Int) := by omega
          have HLit := hideP (lit_one cdN wr ⟨op, kids, ⟨vk, vn, vs⟩, nm⟩ 38)
          have HO5 := hideP (own_fr HO.out ((Fr.refl wr).alloc (.cells #[.int .i64 op, .int .i64 kids, .int .i64 vk, .int .i64 vn, .string vs, .string nm] 38)))
          have hsz : w3.heap.size ≤ wr.heap.size := HF.out.size
          have hs3 : w.heap.size ≤ w3.heap.size := HF3.out.size
          clear hlk9
          go_wp2_with (at_builtin; refine wpList_append_L cdN rfl _ _ 22 38 i0 _ 64 rfl Tryz.underlying22 hi0 hz0 hz1 hz2 rfl w3.heap.size _ lk _ rfl HO5.out (.slice (some ⟨wr.heap.size, 0, none⟩) 1 1) [⟨op, kids, ⟨vk, vn, vs⟩, nm⟩] rfl HLit.out ?c3 ?c4 ?c5 ?_)
          case c3 => show lk + 1 ≤ maxLen; unfold maxLen; omega
          case c4 => show (lk + 1) * 64 ≤ 140737488355328; omega
          case c5 => first | exact hsz | exact Nat.le_succ_of_le hsz | exact Nat.le_trans hsz (Nat.le_succ _) | omega
          intro v2 wB own2 gr2
          have HN2 := hideP own2
          have FB := hideP (show Fr w wB from HF3.out.trans (Below.grown (HF.out.alloc _) gr2 (by simp <;> omega) (own_base HO5.out)))
          clear own2 gr2
          go_wp2_with fail
          go_ret
          refine ⟨⟨_, rfl, ?_⟩, FB.out⟩
          rw [HTt.out, List.length_append, HLk.out]
          exact own_low HN2.out hs3
    | ok x =>
      obtain ⟨xk, xn, xz⟩ := x
      simp only [exV, vlV] at HVo
      simp only at HDoc
      by_cases h0 : 0 ≤ xn
      · replace HDoc := hideP (HDoc.out.trans (if_pos h0))
        go_wp2_with fail
        refine (HVo.out _ FT0.out).mono ?_
        rintro _ w1 ⟨rfl, f1⟩
        have FT1 := hideP (FT0.out.trans <| (f1.alloc (.cells #[.int .i64 xk, .int .i64 xn, .string xz] 26)).alloc (.cells #[.int .i64 1, .int .i64 0, .int .i64 xk, .int .i64 xn, .string xz, .string ⟨#[]⟩] 38))
        have hsz : w.heap.size ≤ (w1.alloc (.cells #[.int .i64 xk, .int .i64 xn, .string xz] 26)).heap.size := Nat.le_trans FT0.out.size (f1.alloc (.cells #[.int .i64 xk, .int .i64 xn, .string xz] 26)).size
        clear f1
        go_wp2_with fail
        go_ret
        refine ⟨⟨_, rfl, ?_⟩, FT1.out⟩
        rw [HDoc.out]
        have := World.ownsRow_lit (base := w.heap.size) (e := 38) (size := 6) (w1.alloc (.cells #[.int .i64 xk, .int .i64 xn, .string xz] 26)) #[.int .i64 1, .int .i64 0, .int .i64 xk, .int .i64 xn, .string xz, .string ⟨#[]⟩] 1 hsz (by decide) (by simp)
        simpa [EV.lit, flat, cdN] using this
      · have HDx := hideP (show T = (EV.ff k).flat ++ [n] from HDoc.out.trans (if_neg h0))
        go_wp2_with fail
        refine (HVo.out _ FT0.out).mono ?_
        rintro _ w1 ⟨rfl, f1⟩
        have FT1 := hideP (FT0.out.trans <| f1.alloc (.cells #[.int .i64 xk, .int .i64 xn, .string xz] 26))
        clear f1
        have HTt := hideP (show T = (EV.ff k).flat ++ [n] from HDx.out)
        clear HDoc
        go_wp2_with fail
        refine (HK.out _ FT1.out).mono ?_
        rintro _ w3 ⟨⟨u, rfl, hLL⟩, f3⟩
        have HLL := hideP hLL
        obtain ⟨au, cu, rfl⟩ : ∃ a c, u = .slice a k.len c := by
          obtain ⟨qs, ⟨a, c, e, _⟩, hq, _⟩ := hLL
          exact ⟨a, c, by rw [e, hq, hpl]⟩
        have HF3 := hideP (FT1.out.trans f3)
        clear hLL f3
        go_wp2_with fail
        go_loopw [5, 7] (fun ov iv wr => ∃ i : Nat, iv = .int .i64 i ∧ i ≤ k.len ∧ wr.ownsRow w3.heap.size 38 6 ov (EV.ff (EX.F.take i k)).flat.length (flat cdN (EV.ff (EX.F.take i k)).flat) ∧ Fr w3 wr) (fun _ iv _ => k.len - (intOf iv).toNat)
        case atStart => exact ⟨0, rfl, Nat.zero_le _, World.ownsRow_nil _ _ _ _, Fr.refl _⟩
        case round =>
          obtain ⟨i, rfl, hi, hown, hfr⟩ := hrel
          obtain ⟨fa, fc, rfl⟩ := own_slice hown
          have HO := hideP hown
          have HF := hideP hfr
          have HFw := hideP (HF3.out.trans hfr)
          clear hown hfr
          by_cases hlt : i < k.len
          · have hlt' : (i : Int) < (k.len : Int) := by omega
            obtain ⟨g, og, cg, qs, hq, e9, hcg, hcell, hIs⟩ := ll_cellM HLL.out (by rw [hpl]; omega)
            rw [hpl] at e9 hcg
            simp only [Value.slice.injEq] at e9
            obtain ⟨rfl, _, rfl⟩ := e9
            obtain ⟨n', k', ht, hpt, hcall⟩ := HSt.out i hlt
            have hiq : i < qs.length := by rw [hq, hpl]; exact hlt
            have d0 := (Below.cell HF.out (World.block_lt_of_cell? _ _ (hcell i hiq))).trans (hcell i hiq)
            have hIs2 : IsL cdN wr qs[i].v (k'.flat ++ [n']) := by
              have h2 : i < k.parts.length := by rw [hpl]; exact hlt
              have := (hIs i hiq h2).fr HF.out
              have e : k.parts[i] = k'.flat ++ [n'] := by
                rw [List.getElem?_eq_getElem h2] at hpt
                injection hpt
              rw [e] at this
              exact this
            have HCa := hideP (hcall qs[i].v wr hIs2)
            have l1 := HLe.out i
            have l2 := HLe.out (i + 1)
            have HLn := hideP (congrArg List.length ht)
            rw [List.length_append] at HLn
            have HTn := hideP ht
            unfold Sl.v at HCa
            generalize qs[i].a = qa at *
            generalize qs[i].n = qn at *
            generalize qs[i].c = qc at *
            clear hcell hIs hIs2 hcall ht hpt hiq hq
            generalize (EV.ff (EX.F.take i k)).flat = Ti at *
            generalize (EV.ff (.nd n' k' .nil)).flat = Tn at *
            obtain ⟨li, hli⟩ : ∃ li, Ti.length = li := ⟨_, rfl⟩
            obtain ⟨ln, hln⟩ : ∃ ln, Tn.length = ln := ⟨_, rfl⟩
            rw [hli] at HO HLn l1 ⊢
            rw [hln] at HCa HLn
            have hsum : li + ln ≤ 60 := by have := HLn.out; omega
            have HLi := hideP hli
            have HLm := hideP hln
            clear hli hln
            go_wp2_with fail
            refine HCa.out.mono ?_
            rintro _ w5 ⟨⟨u5, rfl, own5⟩, f5⟩
            obtain ⟨ua, uc, rfl⟩ := own_slice own5
            have HI5 := hideP (show IsL cdN w5 (.slice ua ln uc) Tn from isL_own (E := cdN) (by rw [HLm.out]; exact own5))
            have HO5 := hideP (own_fr HO.out f5)
            have F5 := hideP (HF.out.trans f5)
            have hsz : w.heap.size ≤ w5.heap.size := Nat.le_trans HFw.out.size f5.size
            have hsw : w3.heap.size ≤ w5.heap.size := F5.out.size
            clear f5 own5
            go_wp2_with (at_builtin; refine wpList_append_L cdN rfl _ _ 22 38 i0 _ 64 rfl Tryz.underlying22 hi0 hz0 hz1 hz2 rfl w3.heap.size _ li _ rfl HO5.out (.slice ua ln uc) Tn rfl HI5.out ?c3 ?c4 ?c5 ?_)
            case c3 => rw [HLm.out]; unfold maxLen; omega
            case c4 => rw [HLm.out]; omega
            case c5 => exact hsw
            intro v2 wB own2 gr2
            rw [HLm.out] at own2
            have HN2 := hideP own2
            have FB := hideP (show Fr w3 wB from Below.grown F5.out gr2 (by omega) (own_base HO5.out))
            clear own2 gr2
            go_wp2_with fail
            go_roundw
            case rel => exact ⟨i + 1, by go_num, by omega, by rw [HTn.out, List.length_append, HLi.out, HLm.out]; exact HN2.out, FB.out⟩
            case measure => simp [intOf]; omega
          · obtain rfl : i = k.len := by omega
            have hlt' : ((k.len : Int) < (k.len : Int)) = False := by simp
            have l1 := HLe.out k.len
            rw [HFk.out] at HO l1 ⊢
            generalize (EV.ff k).flat = Tk at *
            obtain ⟨lk, hlk9⟩ : ∃ lk, Tk.length = lk := ⟨_, rfl⟩
            rw [hlk9] at HO l1 ⊢
            have HLk := hideP hlk9
            obtain ⟨q0, q1, q2, q3, q4, q5⟩ := HNc.out wr HFw.out
            obtain ⟨op, kids, ⟨vk, vn, vs⟩, nm⟩ := n
            simp only at q0 q1 q2 q3 q4 q5
            have hm1 : (0 : Int) < (m9 : Int) + 1 := by omega
            have hm2 : IntKind.i64.wrap ((m9 : Int) + 1 - 1) = (m9 : Int) := by
              simp only [IntKind.wrap]; simp [IntKind.min, IntKind.max, IntKind.signed, IntKind.bits]; omega
            have hm4 : IntKind.i64.wrap (m9 : Int) = (m9 : Int) := by
              simp only [IntKind.wrap]; simp [IntKind.min, IntKind.max, IntKind.signed, IntKind.bits]; omega
            have hm3 : (m9 : Int) < (m9 : Int) + 1 := by omega
            have hm5 : (0 : Int) ≤ (m9 : Int) := by omega
            have HLit := hideP (lit_one cdN wr ⟨op, kids, ⟨vk, vn, vs⟩, nm⟩ 38)
            have HO5 := hideP (own_fr HO.out ((Fr.refl wr).alloc (.cells #[.int .i64 op, .int .i64 kids, .int .i64 vk, .int .i64 vn, .string vs, .string nm] 38)))
            have hsz : w3.heap.size ≤ wr.heap.size := HF.out.size
            have hs3 : w.heap.size ≤ w3.heap.size := HF3.out.size
            clear hlk9
            go_wp2_with (at_builtin; refine wpList_append_L cdN rfl _ _ 22 38 i0 _ 64 rfl Tryz.underlying22 hi0 hz0 hz1 hz2 rfl w3.heap.size _ lk _ rfl HO5.out (.slice (some ⟨wr.heap.size, 0, none⟩) 1 1) [⟨op, kids, ⟨vk, vn, vs⟩, nm⟩] rfl HLit.out ?c3 ?c4 ?c5 ?_)
            case c3 => show lk + 1 ≤ maxLen; unfold maxLen; omega
            case c4 => show (lk + 1) * 64 ≤ 140737488355328; omega
            case c5 => first | exact hsz | exact Nat.le_succ_of_le hsz | exact Nat.le_trans hsz (Nat.le_succ _) | omega
            intro v2 wB own2 gr2
            have HN2 := hideP own2
            have FB := hideP (show Fr w wB from HF3.out.trans (Below.grown (HF.out.alloc _) gr2 (by simp <;> omega) (own_base HO5.out)))
            clear own2 gr2
            go_wp2_with fail
            go_ret
            refine ⟨⟨_, rfl, ?_⟩, FB.out⟩
            rw [HTt.out, List.length_append, HLk.out]
            exact own_low HN2.out hs3
theorem fdTo : ∀ N, FdTo N
  | 0 => fun n k v W h => absurd h (Nat.not_lt_zero _)
  | N + 1 => fun n k v W h hg hl hgd hv => by
    refine foldOf_core n k v W ?_ hg hl hgd hv
    intro n' k' v' W' h'
    exact fdTo N n' k' v' W' (by omega)
theorem foldOf_any (n : EX.Nd) (k : EX.F) (v : Value) (w : World) (hg : (EX.F.nd n k .nil).good) (hl : (k.flat ++ [n]).length ≤ 60) (hgd : ∀ m ∈ k.flat ++ [n], EV.gd m.v) (h : IsL cdN w v (k.flat ++ [n])) :
    Calls Tryz.prog 25 #[v] w fun r w' => FdAns n k w.heap.size r w' ∧ Fr w w' := fdTo _ n k v w (Nat.lt_succ_self _) hg hl hgd h
end Go.Proofs.YtjljohmflhmkmaaGreatDoor
