/-
  Values as literals, as plain functions of lists: shown, and read.
-/
import Derived.Lib.ItoaNum
import Derived.Lib.ParseIntB
namespace Go.Proofs.YtoagobpkenfbkaaGreatDoor
namespace VS
abbrev Bs := List UInt8

def dbl (b : UInt8) : Bs := if b.toNat = 39 then [39, 39] else [b]
def hxd (n : Nat) : UInt8 := if n < 10 then UInt8.ofNat (48 + n) else UInt8.ofNat (87 + n)
def hx (b : UInt8) : Bs := [hxd (b.toNat / 16), hxd (b.toNat % 16)]
def nul : Bs := [78, 85, 76, 76]
/-- what is shown of a right value -/
def shw (k n : Int) (s : Bs) : Bs :=
  if k = 1 then Lib.itoa n
  else if k = 2 then 39 :: s.flatMap dbl ++ [39]
  else if k = 3 then 120 :: 39 :: s.flatMap hx ++ [39]
  else nul

def dig (b : UInt8) : Bool := decide (48 ≤ b.toNat) && decide (b.toNat ≤ 57)
/-- digits without a nought ahead, or one nought, if that may be -/
def dgs (below : Bool) (l : Bs) : Bool := match l with
  | [] => false
  | b :: r => !(b.toNat == 48 && (below || !r.isEmpty)) && (b :: r).all dig
def isDec (l : Bs) : Bool := match l with
  | [] => false
  | b :: r => if b.toNat = 45 then dgs true r else dgs false (b :: r)
/-- what stands between two quotes -/
def unq (l : Bs) : Option Bs := match l with
  | [] => none
  | b :: r => if b.toNat = 39 ∧ r.getLast? = some 39 then some r.dropLast else none
def undbl : Bs → Option Bs
  | [] => some []
  | [b] => if b.toNat = 39 then none else some [b]
  | b :: c :: r => if b.toNat = 39 then (if c.toNat = 39 then (undbl r).map (39 :: ·) else none) else (undbl (c :: r)).map (b :: ·)
def hxv (b : UInt8) : Option Nat := if 48 ≤ b.toNat ∧ b.toNat ≤ 57 then some (b.toNat - 48) else if 97 ≤ b.toNat ∧ b.toNat ≤ 102 then some (b.toNat - 87) else none
def unhx : Bs → Option Bs
  | [] => some []
  | [_] => none
  | a :: b :: r => match hxv a, hxv b with
    | some x, some y => (unhx r).map (UInt8.ofNat (16 * x + y) :: ·)
    | _, _ => none
structure Rd where
  k : Int
  n : Int
  s : Bs
  e : Nat
def bad (e : Nat) : Rd := ⟨0, 0, [], e⟩
def txt (k : Int) (o : Option Bs) : Rd := match o with
  | none => bad 1
  | some t => if 16 < t.length then bad 2 else ⟨k, 0, t, 0⟩
def int (l : Bs) : Rd := match Lib.parseIntB 64 l with
  | .ok n => ⟨1, n, [], 0⟩
  | _ => bad 8
def trx (l : Bs) : Bs := match l with
  | [] => []
  | b :: r => if b.toNat = 120 then r else b :: r
/-- the value of a literal -/
def rd (l : Bs) : Rd :=
  if l = nul then ⟨0, 0, [], 0⟩
  else if isDec l = true then int l
  else match unq l with
    | some t => txt 2 (undbl t)
    | none => match unq (trx l) with
      | some t => txt 3 (unhx t)
      | none => bad 1

/-! what is shown is read as it was -/
theorem undbl_q (r : Bs) : undbl (39 :: 39 :: r) = (undbl r).map (39 :: ·) := by
  conv => lhs; unfold undbl
  rfl
theorem undbl_n (b : UInt8) (h : b.toNat ≠ 39) (r : Bs) : undbl (b :: r) = (undbl r).map (b :: ·) := by
  cases r with
  | nil =>
    show (if b.toNat = 39 then none else some [b]) = some [b]
    rw [if_neg h]
  | cons c r =>
    conv => lhs; unfold undbl
    exact if_neg h
theorem undbl_dbl : ∀ s : Bs, undbl (s.flatMap dbl) = some s
  | [] => rfl
  | b :: s => by
    rw [List.flatMap_cons]
    by_cases h : b.toNat = 39
    · have hb : b = 39 := UInt8.toNat_inj.1 h
      subst hb
      show undbl (39 :: 39 :: s.flatMap dbl) = _
      rw [undbl_q, undbl_dbl s]
      rfl
    · have e : dbl b = [b] := if_neg h
      rw [e, List.cons_append, List.nil_append, undbl_n b h, undbl_dbl s]
      rfl
theorem hxv_hxd (n : Nat) (h : n < 16) : hxv (hxd n) = some n := by
  have : ∀ m : Fin 16, hxv (hxd m.val) = some m.val := by decide
  exact this ⟨n, h⟩
theorem unhx_hx : ∀ s : Bs, unhx (s.flatMap hx) = some s
  | [] => rfl
  | b :: s => by
    rw [List.flatMap_cons]
    show unhx (hxd (b.toNat / 16) :: hxd (b.toNat % 16) :: s.flatMap hx) = _
    have hb := b.toNat_lt
    unfold unhx
    rw [hxv_hxd _ (by omega), hxv_hxd _ (by omega)]
    simp only
    rw [unhx_hx s]
    simp only [Option.map_some, Option.some.injEq, List.cons.injEq, and_true]
    rw [show 16 * (b.toNat / 16) + b.toNat % 16 = b.toNat by omega]
    exact UInt8.ofNat_toNat
theorem unq_mk (b : UInt8) (hb : b.toNat = 39) (s : Bs) : unq (b :: (s ++ [39])) = some s := by
  show (if b.toNat = 39 ∧ (s ++ [39]).getLast? = some 39 then some (s ++ [39]).dropLast else none) = some s
  rw [if_pos ⟨hb, by simp⟩]
  simp
end VS
end Go.Proofs.YtoagobpkenfbkaaGreatDoor
