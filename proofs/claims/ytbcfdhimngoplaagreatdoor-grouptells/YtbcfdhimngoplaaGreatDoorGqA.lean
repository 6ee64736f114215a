/-
  What belongs together: NumMath, RMath, WMath, KMath, LMath, KRMath, KLMath.
-/
import Derived.Test.YtbcfdhimngoplaaGreatDoorGpA
namespace Go.Proofs.YtbcfdhimngoplaaGreatDoor.NM
def encF : Nat → Nat → List UInt8
 | 0, n => [UInt8.ofNat n]
 | f + 1, n => if n < 128 then [UInt8.ofNat n] else UInt8.ofNat (n % 128 + 128) :: encF f (n / 128)
def enc (n : Nat) : List UInt8 := encF n n
def rd : List UInt8 → Nat → Nat → Nat × Nat × Nat
 | [], _, _ => (0, 0, 5)
 | b :: r, i, acc =>
  if i = 9 ∧ 1 < b.toNat then (0, 0, 2)
  else if 128 ≤ b.toNat then rd r (i + 1) (acc + b.toNat % 128 * 128 ^ i)
  else if b.toNat = 0 ∧ 0 < i then (0, 0, 1)
  else (acc + b.toNat % 128 * 128 ^ i, i + 1, 0)
theorem encF_small {n : Nat} (f : Nat) (h : n < 128) : encF f n = [UInt8.ofNat n] := by
 cases f with
 | zero => rfl
 | succ f => rw [encF, if_pos h]
theorem encF_eq : ∀ (n f g : Nat), n ≤ f → n ≤ g → encF f n = encF g n := by
 intro n
 induction n using Nat.strongRecOn with
 | ind n ih =>
  intro f g hf hg
  by_cases h : n < 128
  · rw [encF_small f h, encF_small g h]
  ·
   obtain ⟨f', rfl⟩ : ∃ f', f = f' + 1 := ⟨f - 1, by omega⟩
   obtain ⟨g', rfl⟩ : ∃ g', g = g' + 1 := ⟨g - 1, by omega⟩
   rw [encF, encF, if_neg h, if_neg h, ih (n / 128) (by omega) f' g' (by omega) (by omega)]
theorem enc_small {n : Nat} (h : n < 128) : enc n = [UInt8.ofNat n] := encF_small n h
theorem enc_big {n : Nat} (h : 128 ≤ n) : enc n = UInt8.ofNat (n % 128 + 128) :: enc (n / 128) := by
 unfold enc
 obtain ⟨f, hf⟩ : ∃ f, n = f + 1 := ⟨n - 1, by omega⟩
 have e : encF n n = encF (f + 1) n := by rw [← hf]
 rw [e, encF, if_neg (by omega), encF_eq (n / 128) f (n / 128) (by omega) (Nat.le_refl _)]
theorem toNat_ofNat {n : Nat} (h : n < 256) : (UInt8.ofNat n).toNat = n := by
 simp [UInt8.toNat_ofNat']; omega
theorem pow10 {n i : Nat} (h : 128 ≤ n) (hi : n * 128 ^ i < 18446744073709551616) : i ≠ 9 := by
 intro e; subst e
 have := Nat.mul_le_mul_right (128 ^ 9) h
 omega
theorem rd_enc (rest : List UInt8) : ∀ (n i acc : Nat), n * 128 ^ i < 18446744073709551616 → (0 < n ∨ i = 0) →
  rd (enc n ++ rest) i acc = (acc + n * 128 ^ i, i + (enc n).length, 0) := by
 intro n
 induction n using Nat.strongRecOn with
 | ind n ih =>
  intro i acc hb hp
  by_cases h : n < 128
  ·
   rw [enc_small h]
   have t : (UInt8.ofNat n).toNat = n := toNat_ofNat (by omega)
   have h9 : ¬ (i = 9 ∧ 1 < n) := by
    rintro ⟨rfl, h1⟩
    have := Nat.mul_le_mul_right (128 ^ 9) (show 2 ≤ n from h1)
    omega
   have hm : n % 128 = n := Nat.mod_eq_of_lt h
   have hz : ¬ (n = 0 ∧ 0 < i) := by omega
   simp only [List.cons_append, List.nil_append, rd, t, h9, if_false, hz, hm, show ¬ 128 ≤ n by omega, List.length_cons, List.length_nil]
  ·
   have h' : 128 ≤ n := by omega
   rw [enc_big h']
   have t : (UInt8.ofNat (n % 128 + 128)).toNat = n % 128 + 128 := toNat_ofNat (by omega)
   have h9 := pow10 h' hb
   have e : n * 128 ^ i = n % 128 * 128 ^ i + n / 128 * 128 ^ (i + 1) := by
    rw [Nat.pow_succ, Nat.mul_comm (128 ^ i) 128, ← Nat.mul_assoc, ← Nat.add_mul]
    congr 1; omega
   have hi := ih (n / 128) (by omega) (i + 1) (acc + n % 128 * 128 ^ i) (by omega) (by left; omega)
   simp only [List.cons_append, rd, t, h9, false_and, if_false, show 128 ≤ n % 128 + 128 by omega, if_true, show (n % 128 + 128) % 128 = n % 128 by omega, hi, List.length_cons]
   rw [e]
   simp only [Prod.mk.injEq, and_true]
   omega
def val : List UInt8 → Nat
 | [] => 0
 | b :: r => b.toNat % 128 + 128 * val r
end Go.Proofs.YtbcfdhimngoplaaGreatDoor.NM
namespace Go.Proofs.YtbcfdhimngoplaaGreatDoor
namespace RM
open VM
def zag (u : Nat) : Int := if (u : Int) % 2 = 0 then (u : Int) / 2 else -((u : Int) / 2) - 1
def nu (l : List UInt8) : Except Nat (Nat × List UInt8) :=
 if (NM.rd l 0 0).2.2 = 0 then .ok ((NM.rd l 0 0).1, l.drop (NM.rd l 0 0).2.1) else .error (NM.rd l 0 0).2.2
def cnt (most : Nat) (l : List UInt8) : Except Nat (Nat × List UInt8) :=
 match nu l with
 | .error e => .error e
 | .ok (n, t) => if most < n then .error 2 else .ok (n, t)
def tx (k : Nat) (l : List UInt8) : Except Nat (Vl × List UInt8) :=
 match cnt 16 l with
 | .error e => .error e
 | .ok (n, t) => if t.length < n then .error 5 else .ok (⟨k, 0, ⟨(t.take n).toArray⟩⟩, t.drop n)
def nt (l : List UInt8) : Except Nat (Vl × List UInt8) :=
 match nu l with
 | .error e => .error e
 | .ok (n, t) => .ok (⟨1, zag n, ⟨#[]⟩⟩, t)
def vl (l : List UInt8) : Except Nat (Vl × List UInt8) :=
 match l with
 | [] => .error 5
 | b :: t =>
  if b.toNat = 0 then .ok (⟨0, 0, ⟨#[]⟩⟩, t)
  else if b.toNat = 1 then nt t
  else if b.toNat = 2 ∨ b.toNat = 3 then tx b.toNat t
  else .error 7
def vls : Nat → List UInt8 → Except Nat (List Vl × List UInt8)
 | 0, l => .ok ([], l)
 | n + 1, l =>
  match vl l with
  | .error e => .error e
  | .ok (x, t) =>
   match vls n t with
   | .error e => .error e
   | .ok (xs, u) => .ok (x :: xs, u)
def row (l : List UInt8) : Except Nat (List Vl × List UInt8) :=
 match cnt 8 l with
 | .error e => .error e
 | .ok (n, t) => vls n t
def pre (xs : List Vl) (x : Except Nat (List Vl × List UInt8)) : Except Nat (List Vl × List UInt8) :=
 match x with
 | .error e => .error e
 | .ok (ys, u) => .ok (xs ++ ys, u)
theorem pre_nil (x : Except Nat (List Vl × List UInt8)) : pre [] x = x := by
 unfold pre
 split <;> rfl
end RM
end Go.Proofs.YtbcfdhimngoplaaGreatDoor
namespace Go.Proofs.YtbcfdhimngoplaaGreatDoor
namespace WM
open VM
def zig (n : Int) : Nat := (if 0 ≤ n then 2 * n else -2 * n - 1).toNat
def body (x : Vl) : List UInt8 :=
 if x.k = 1 then NM.enc (zig x.n) else if x.k = 2 ∨ x.k = 3 then NM.enc x.s.size ++ x.s.data.toList else []
def vb (x : Vl) : List UInt8 := UInt8.ofNat x.k.toNat :: body x
def row (l : List Vl) : List UInt8 := NM.enc l.length ++ l.flatMap vb
theorem chk_ok {x : Vl} (h : chk x = 0) : 0 ≤ x.k ∧ x.k ≤ 3 ∧ (x.n ≠ 0 → x.k = 1) ∧ (x.s.size ≠ 0 → x.k = 2 ∨ x.k = 3) ∧ x.s.size ≤ 16 := by
 unfold chk at h
 split at h
 · cases h
 ·
  split at h
  · cases h
  ·
   split at h
   · cases h
   ·
    rename_i h1 h2 h3
    refine ⟨by omega, by omega, fun hn => ?_, fun hs => ?_, by omega⟩
    ·
     by_cases c : x.k = 1
     · exact c
     · exact absurd (Or.inl ⟨hn, c⟩) h2
    ·
     by_cases c : x.k = 2 ∨ x.k = 3
     · exact c
     · exact absurd (Or.inr ⟨hs, c⟩) h2
theorem chkAll_ok {l : List Vl} (h : chkAll l = 0) : ∀ x ∈ l, chk x = 0 := by
 induction l with
 | nil => intro x hx; simp at hx
 | cons a t ih =>
  unfold chkAll at h
  intro x hx
  split at h
  ·
   rename_i ha
   rcases List.mem_cons.1 hx with rfl | hx
   · exact ha
   · exact ih h x hx
  ·
   rename_i ha
   exact absurd h ha
theorem chkRow_ok {l : List Vl} (h : chkRow l = 0) : l.length ≤ 8 ∧ ∀ x ∈ l, chk x = 0 := by
 unfold chkRow at h
 split at h
 · cases h
 · exact ⟨by omega, chkAll_ok h⟩
end WM
end Go.Proofs.YtbcfdhimngoplaaGreatDoor
namespace Go.Proofs.YtbcfdhimngoplaaGreatDoor
namespace KM
open VM
def be : Nat → Nat → List UInt8
 | 0, _ => []
 | k + 1, u => UInt8.ofNat (u / 256 ^ k) :: be k (u % 256 ^ k)
def turn (n : Int) : Nat := (n + 9223372036854775808).toNat
def esc : List UInt8 → List UInt8
 | [] => [0, 1]
 | b :: t => if b.toNat = 0 then 0 :: 255 :: esc t else b :: esc t
def kb (x : Vl) : List UInt8 :=
 if x.k = 0 then [5]
 else if x.k = 1 then 16 :: be 8 (turn x.n)
 else if x.k = 2 then 32 :: esc x.s.data.toList
 else 48 :: esc x.s.data.toList
def row (l : List Vl) : List UInt8 := l.flatMap kb
theorem esc_len (l : List UInt8) : (esc l).length ≤ 2 * l.length + 2 := by
 induction l with
 | nil => simp [esc]
 | cons b t ih =>
  unfold esc
  split <;> simp <;> omega
theorem be_len (k u : Nat) : (be k u).length = k := by
 induction k generalizing u with
 | zero => rfl
 | succ k ih => simp [be, ih]
theorem kb_len {x : Vl} (h : x.s.size ≤ 16) : (kb x).length ≤ 35 := by
 have e : x.s.data.toList.length = x.s.size := by rw [Array.length_toList]; rfl
 have := esc_len x.s.data.toList
 unfold kb
 split
 · simp
 ·
  split
  · simp [be_len]
  · split <;> simp <;> omega
end KM
end Go.Proofs.YtbcfdhimngoplaaGreatDoor
namespace Go.Proofs.YtbcfdhimngoplaaGreatDoor
namespace LM
open VM
def wide (x : Vl) : Prop := -9223372036854775808 ≤ x.n ∧ x.n ≤ 9223372036854775807
theorem nu_enc {n : Nat} (h : n < 18446744073709551616) (rest : List UInt8) : RM.nu (NM.enc n ++ rest) = .ok (n, rest) := by
 have e := NM.rd_enc rest n 0 0 (by simpa using h) (Or.inr rfl)
 unfold RM.nu
 rw [e]
 simp
theorem cnt_enc {m n : Nat} (h : n < 18446744073709551616) (hm : n ≤ m) (rest : List UInt8) : RM.cnt m (NM.enc n ++ rest) = .ok (n, rest) := by
 unfold RM.cnt
 rw [nu_enc h]
 simp only
 rw [if_neg (by omega)]
theorem empty_of {s : ByteArray} (h : s.size = 0) : s = ⟨#[]⟩ := by
 obtain ⟨⟨l⟩⟩ := s
 have : l.length = 0 := h
 rw [List.length_eq_zero_iff.1 this]
theorem ba_of (s : ByteArray) : (⟨s.data.toList.toArray⟩ : ByteArray) = s := by cases s; simp
theorem zag_zig {n : Int} : RM.zag (WM.zig n) = n := by
 unfold RM.zag WM.zig
 split <;> split <;> omega
theorem zig_lt {x : Vl} (h : wide x) : WM.zig x.n < 18446744073709551616 := by
 unfold wide at h
 unfold WM.zig
 split <;> omega
theorem dl (s : ByteArray) : s.data.toList.length = s.size := by rw [Array.length_toList]; rfl
theorem kinds {x : Vl} (h : chk x = 0) : (x = ⟨0, 0, ⟨#[]⟩⟩) ∨ (x.k = 1 ∧ x.s = ⟨#[]⟩) ∨ ((x.k = 2 ∨ x.k = 3) ∧ x.n = 0 ∧ x.s.size ≤ 16) := by
 obtain ⟨h1, h2, h3, h4, h5⟩ := WM.chk_ok h
 obtain ⟨k, n, s⟩ := x
 simp only at *
 have hk : k = 0 ∨ k = 1 ∨ k = 2 ∨ k = 3 := by omega
 rcases hk with rfl | rfl | hk
 ·
  left
  have hn : n = 0 := by
   by_cases c : n = 0
   · exact c
   · have := h3 c; omega
  have hs : s.size = 0 := by
   by_cases c : s.size = 0
   · exact c
   · have := h4 c; omega
  rw [hn, empty_of hs]
 ·
  right; left
  have hs : s.size = 0 := by
   by_cases c : s.size = 0
   · exact c
   · have := h4 c; omega
  exact ⟨rfl, empty_of hs⟩
 ·
  right; right
  refine ⟨hk, ?_, h5⟩
  by_cases c : n = 0
  · exact c
  · have := h3 c; omega
theorem vl_one (t : List UInt8) : RM.vl (1 :: t) = RM.nt t := rfl
theorem vl_two (t : List UInt8) : RM.vl (2 :: t) = RM.tx 2 t := rfl
theorem vl_three (t : List UInt8) : RM.vl (3 :: t) = RM.tx 3 t := rfl
theorem tx_enc (k : Nat) (s : ByteArray) (h : s.size ≤ 16) (rest : List UInt8) : RM.tx k (NM.enc s.size ++ s.data.toList ++ rest) = .ok (⟨k, 0, s⟩, rest) := by
 unfold RM.tx
 rw [List.append_assoc, cnt_enc (by omega) h]
 simp only
 have e := dl s
 rw [if_neg (by rw [List.length_append]; omega), ← e, List.take_left' rfl, List.drop_left' rfl, ba_of]
theorem nt_enc {n : Int} (h : WM.zig n < 18446744073709551616) (rest : List UInt8) : RM.nt (NM.enc (WM.zig n) ++ rest) = .ok (⟨1, n, ⟨#[]⟩⟩, rest) := by
 unfold RM.nt
 rw [nu_enc h]
 simp only
 rw [zag_zig]
theorem vl_back {x : Vl} (h : chk x = 0) (hw : wide x) (rest : List UInt8) : RM.vl (WM.vb x ++ rest) = .ok (x, rest) := by
 rcases kinds h with rfl | ⟨h1, h2⟩ | ⟨h1, h2, h3⟩
 · rfl
 ·
  obtain ⟨k, n, s⟩ := x
  simp only at h1 h2
  subst h1 h2
  show RM.vl (1 :: (NM.enc (WM.zig n) ++ rest)) = _
  rw [vl_one, nt_enc (zig_lt hw)]
 ·
  obtain ⟨k, n, s⟩ := x
  simp only at h1 h2 h3
  subst h2
  rcases h1 with rfl | rfl
  ·
   show RM.vl (2 :: (NM.enc s.size ++ s.data.toList ++ rest)) = _
   rw [vl_two, tx_enc 2 s h3]
   rfl
  ·
   show RM.vl (3 :: (NM.enc s.size ++ s.data.toList ++ rest)) = _
   rw [vl_three, tx_enc 3 s h3]
   rfl
theorem vls_back {l : List Vl} (h : ∀ x ∈ l, chk x = 0) (hw : ∀ x ∈ l, wide x) (rest : List UInt8) : RM.vls l.length (l.flatMap WM.vb ++ rest) = .ok (l, rest) := by
 induction l with
 | nil => rfl
 | cons a t ih =>
  rw [List.flatMap_cons, List.append_assoc, List.length_cons, RM.vls, vl_back (h a (by simp)) (hw a (by simp))]
  simp only
  rw [ih (fun x hx => h x (by simp [hx])) (fun x hx => hw x (by simp [hx]))]
theorem row_back {l : List Vl} (h : chkRow l = 0) (hw : ∀ x ∈ l, wide x) (rest : List UInt8) : RM.row (WM.row l ++ rest) = .ok (l, rest) := by
 obtain ⟨h8, ha⟩ := WM.chkRow_ok h
 unfold RM.row WM.row
 rw [List.append_assoc, cnt_enc (by omega) h8]
 exact vls_back ha hw rest
end LM
end Go.Proofs.YtbcfdhimngoplaaGreatDoor
namespace Go.Proofs.YtbcfdhimngoplaaGreatDoor
namespace KR
open VM
def bv (l : List UInt8) : Nat := l.foldl (fun a b => a * 256 + b.toNat) 0
def ki (l : List UInt8) : Except Nat (Int × List UInt8) :=
 if l.length < 8 then .error 1 else .ok ((bv (l.take 8) : Int) - 9223372036854775808, l.drop 8)
def kt : List UInt8 → List UInt8 → Except Nat (List UInt8 × List UInt8)
 | [], _ => .error 1
 | [_], _ => .error 1
 | b :: c :: u, acc =>
  if b.toNat ≠ 0 then kt (c :: u) (acc ++ [b])
  else if c.toNat = 255 then kt u (acc ++ [0])
  else if c.toNat = 1 then (if 16 < acc.length then .error 2 else .ok (acc, u))
  else .error 1
def kn (l : List UInt8) : Except Nat (Vl × List UInt8) :=
 match ki l with
 | .error e => .error e
 | .ok (n, t) => .ok (⟨1, n, ⟨#[]⟩⟩, t)
def kx (k : Nat) (l : List UInt8) : Except Nat (Vl × List UInt8) :=
 match kt l [] with
 | .error e => .error e
 | .ok (s, t) => .ok (⟨k, 0, ⟨s.toArray⟩⟩, t)
def kv (l : List UInt8) : Except Nat (Vl × List UInt8) :=
 match l with
 | [] => .error 1
 | b :: t =>
  if b.toNat = 5 then .ok (⟨0, 0, ⟨#[]⟩⟩, t)
  else if b.toNat = 16 then kn t
  else if b.toNat = 32 then kx 2 t
  else if b.toNat = 48 then kx 3 t
  else .error 1
def kr : Nat → List UInt8 → Except Nat (List Vl × List UInt8)
 | _, [] => .ok ([], [])
 | 0, _ :: _ => .error 2
 | n + 1, b :: u =>
  match kv (b :: u) with
  | .error e => .error e
  | .ok (x, t) =>
   match kr n t with
   | .error e => .error e
   | .ok (xs, v) => .ok (x :: xs, v)
theorem kr_nil (n : Nat) : kr n [] = .ok ([], []) := by cases n <;> rfl
end KR
end Go.Proofs.YtbcfdhimngoplaaGreatDoor
namespace Go.Proofs.YtbcfdhimngoplaaGreatDoor
namespace KL
open VM
theorem bv_be : ∀ (k u : Nat), u < 256 ^ k → KR.bv (KM.be k u) = u := by
 suffices h : ∀ (k u a : Nat), u < 256 ^ k → (KM.be k u).foldl (fun a b => a * 256 + b.toNat) a = a * 256 ^ k + u by
  intro k u hu
  have := h k u 0 hu
  simpa [KR.bv] using this
 intro k
 induction k with
 | zero => intro u a hu; simp at hu; simp [KM.be, hu]
 | succ k ih =>
  intro u a hu
  rw [Nat.pow_succ] at hu
  have hp : 0 < 256 ^ k := Nat.pow_pos (by decide)
  have hd : u / 256 ^ k < 256 := Nat.div_lt_of_lt_mul (by rw [Nat.mul_comm] at hu; rw [Nat.mul_comm]; exact hu)
  simp only [KM.be, List.foldl_cons]
  rw [ih _ _ (Nat.mod_lt _ hp), UInt8.toNat_ofNat', Nat.mod_eq_of_lt hd, Nat.pow_succ, Nat.add_mul, Nat.mul_assoc, Nat.mul_comm 256 (256 ^ k), Nat.add_assoc]
  congr 1
  have := Nat.div_add_mod u (256 ^ k)
  rw [Nat.mul_comm (u / 256 ^ k)]
  exact this
theorem kt_esc : ∀ (s acc rest : List UInt8), acc.length + s.length ≤ 16 → KR.kt (KM.esc s ++ rest) acc = .ok (acc ++ s, rest) := by
 intro s
 induction s with
 | nil =>
  intro acc rest h
  show KR.kt (0 :: 1 :: rest) acc = _
  rw [KR.kt]
  simp
  simpa using h
 | cons b t ih =>
  intro acc rest h
  simp only [List.length_cons] at h
  unfold KM.esc
  by_cases hb : b.toNat = 0
  ·
   rw [if_pos hb]
   have e0 : b = 0 := UInt8.toNat_inj.1 hb
   show KR.kt (0 :: 255 :: (KM.esc t ++ rest)) acc = _
   rw [KR.kt]
   have := ih (acc ++ [0]) rest (by simp; omega)
   simp only [List.append_assoc, List.cons_append, List.nil_append] at this
   simp [this, e0]
  ·
   rw [if_neg hb]
   have step : KR.kt (b :: (KM.esc t ++ rest)) acc = KR.kt (KM.esc t ++ rest) (acc ++ [b]) := by
    cases hq : KM.esc t ++ rest with
    | nil =>
     cases t with
     | nil => cases hq
     | cons c u =>
      unfold KM.esc at hq
      split at hq <;> cases hq
    | cons c u => rw [KR.kt, if_pos hb]
   show KR.kt (b :: (KM.esc t ++ rest)) acc = _
   rw [step, ih (acc ++ [b]) rest (by simp; omega)]
   simp
theorem turn_lt {x : Vl} (h : LM.wide x) : KM.turn x.n < 256 ^ 8 := by
 unfold LM.wide at h
 unfold KM.turn
 omega
theorem kv_back {x : Vl} (h : chk x = 0) (hw : LM.wide x) (rest : List UInt8) : KR.kv (KM.kb x ++ rest) = .ok (x, rest) := by
 rcases LM.kinds h with rfl | ⟨h1, h2⟩ | ⟨h1, h2, h3⟩
 · rfl
 ·
  obtain ⟨k, n, s⟩ := x
  simp only at h1 h2
  subst h1 h2
  show KR.kn (KM.be 8 (KM.turn n) ++ rest) = _
  have hl := KM.be_len 8 (KM.turn n)
  unfold KR.kn KR.ki
  rw [if_neg (by rw [List.length_append, hl]; omega)]
  simp only
  rw [List.take_left' hl, List.drop_left' hl, bv_be _ _ (turn_lt hw)]
  have : ((KM.turn n : Nat) : Int) - 9223372036854775808 = n := by
   unfold LM.wide at hw
   simp only at hw
   unfold KM.turn
   omega
  rw [this]
 ·
  obtain ⟨k, n, s⟩ := x
  simp only at h1 h2 h3
  subst h2
  have e := LM.dl s
  have key : ∀ q : Nat, KR.kx q (KM.esc s.data.toList ++ rest) = .ok (⟨q, 0, s⟩, rest) := by
   intro q
   unfold KR.kx
   rw [kt_esc _ [] rest (by simp; omega)]
   simp only [List.nil_append]
  rcases h1 with rfl | rfl
  · exact key 2
  · exact key 3
theorem kb_cons (x : Vl) : ∃ b t, KM.kb x = b :: t := by
 unfold KM.kb
 split
 · exact ⟨_, _, rfl⟩
 ·
  split
  · exact ⟨_, _, rfl⟩
  · split <;> exact ⟨_, _, rfl⟩
theorem kr_back : ∀ {l : List Vl} {n : Nat}, l.length ≤ n → (∀ x ∈ l, chk x = 0) → (∀ x ∈ l, LM.wide x) → KR.kr n (KM.row l) = .ok (l, []) := by
 intro l
 induction l with
 | nil => intro n _ _ _; exact KR.kr_nil n
 | cons a t ih =>
  intro n hn h hw
  cases n with
  | zero => simp at hn
  | succ n =>
   obtain ⟨b, u, hb⟩ := kb_cons a
   have e : KM.row (a :: t) = b :: (u ++ KM.row t) := by
    unfold KM.row
    rw [List.flatMap_cons, hb]
    rfl
   have e2 : KR.kv (b :: (u ++ KM.row t)) = .ok (a, KM.row t) := by
    have := kv_back (h a (by simp)) (hw a (by simp)) (KM.row t)
    rw [hb] at this
    exact this
   rw [e, KR.kr, e2]
   simp only
   rw [ih (by simpa using hn) (fun x hx => h x (by simp [hx])) (fun x hx => hw x (by simp [hx]))]
theorem row_back {l : List Vl} (h : chkRow l = 0) (hw : ∀ x ∈ l, LM.wide x) : KR.kr 8 (KM.row l) = .ok (l, []) := by
 obtain ⟨h8, ha⟩ := WM.chkRow_ok h
 exact kr_back h8 ha hw
end KL
end Go.Proofs.YtbcfdhimngoplaaGreatDoor
