/-
  Tokens, as plain functions of lists of bytes.
-/
import Derived.Test.YtoagobpkenfbkaaGreatDoorVsOnly
namespace Go.Proofs.YtoagobpkenfbkaaGreatDoor
namespace LX
open VS (Bs dig)

/-- a token without its place -/
structure Tk where
  k : Int
  n : Int
  s : Bs
def small (b : UInt8) : Bool := (decide (97 ≤ b.toNat) && decide (b.toNat ≤ 122)) || decide (b.toNat = 95)
def great (b : UInt8) : Bool := decide (65 ≤ b.toNat) && decide (b.toNat ≤ 90)
def letter (b : UInt8) : Bool := small b || great b
def inWord (b : UInt8) : Bool := letter b || dig b
def hexd (b : UInt8) : Bool := dig b || (decide (97 ≤ b.toNat) && decide (b.toNat ≤ 102)) || (decide (65 ≤ b.toNat) && decide (b.toNat ≤ 70))
def low (b : UInt8) : UInt8 := if great b = true then b + 32 else b
def blank (b : UInt8) : Bool := decide (b.toNat = 32) || decide (b.toNat = 9) || decide (b.toNat = 10) || decide (b.toNat = 13)
/-- how many bytes from the front are wanted -/
def run (p : UInt8 → Bool) : Bs → Nat
  | [] => 0
  | b :: r => if p b = true then run p r + 1 else 0
/-- behind blanks and remarks -/
def skp : Nat → Bs → Nat
  | 0, _ => 0
  | n + 1, l => match l.drop (run blank l) with
    | 45 :: 45 :: r => run blank l + (run (fun b => decide (b.toNat ≠ 10)) (45 :: 45 :: r) + skp n ((45 :: 45 :: r).drop (run (fun b => decide (b.toNat ≠ 10)) (45 :: 45 :: r))))
    | _ => run blank l
/-- behind a text's first quote: how far to behind its last one -/
def qend : Bs → Option Nat
  | [] => none
  | [b] => if b.toNat = 39 then some 1 else none
  | b :: c :: r => if b.toNat = 39 then (if c.toNat = 39 then (qend r).map (· + 2) else some 1) else (qend (c :: r)).map (· + 1)
/-- a literal that takes so many bytes -/
def lit (k : Int) (l : Bs) (size : Nat) : Except Nat (Tk × Nat) :=
  let r := VS.rd (if k = 4 then (l.take size).map low else l.take size)
  if r.e = 0 then .ok (⟨k, 0, r.s⟩, size) else .error r.e
def qsize (r : Bs) : Nat := match qend r with
  | none => 0
  | some n => n + 1
def bsize (r : Bs) : Nat := match r.drop (run hexd r) with
  | b :: _ => if b.toNat = 39 then run hexd r + 3 else 0
  | [] => 0
def word (l : Bs) : Except Nat (Tk × Nat) := if 12 < run inWord l then .error 2 else .ok (⟨1, 0, (l.take (run inWord l)).map low⟩, run inWord l)
def number (l : Bs) : Except Nat (Tk × Nat) :=
  match l.drop (run dig l) with
  | b :: _ => if letter b = true then .error 1 else (let r := VS.rd (l.take (run dig l)); if r.e = 0 then .ok (⟨2, r.n, []⟩, run dig l) else .error r.e)
  | [] => (let r := VS.rd (l.take (run dig l)); if r.e = 0 then .ok (⟨2, r.n, []⟩, run dig l) else .error r.e)
def signs : List Bs := [[60, 62], [60, 61], [62, 61], [60], [62], [61], [40], [41], [44], [59], [42], [43], [45], [47], [37]]
def pre (p l : Bs) : Bool := p.isPrefixOf l
def sign (l : Bs) : Except Nat (Tk × Nat) := match signs.find? (fun p => pre p l) with
  | some p => .ok (⟨5, 0, p⟩, p.length)
  | none => .error 1
/-- the token that a text begins by, and its size -/
def first (l : Bs) : Except Nat (Tk × Nat) :=
  match l with
  | [] => .error 1
  | b :: r =>
    if b.toNat = 39 then lit 3 l (qsize r)
    else if (b.toNat = 120 ∨ b.toNat = 88) ∧ r.head? = some 39 then lit 4 l (bsize r.tail)
    else if letter b = true then word l
    else if dig b = true then number l
    else sign l
/-- what is told of a text from a place on: the tokens, each with its place; or where it fails, and how -/
def go : Nat → Nat → Bs → Nat → Except (Nat × Nat) (List (Nat × Tk))
  | 0, _, _, _ => .error (0, 2)
  | f + 1, at_, l, room =>
    let k := skp (l.length + 1) l
    match l.drop k with
    | [] => .ok []
    | b :: r =>
      if room = 0 then .error (at_ + k, 2)
      else match first (b :: r) with
        | .error e => .error (at_ + k, e)
        | .ok (t, n) => match go f (at_ + k + n) ((b :: r).drop n) (room - 1) with
          | .error e => .error e
          | .ok ts => .ok ((at_ + k, t) :: ts)
def lex (l : Bs) : Except (Nat × Nat) (List (Nat × Tk)) := if 300 < l.length then .error (0, 2) else go (l.length + 1) 0 l 120

/-! what is shown of a token -/
def chkWord (s : Bs) : Nat := match s with
  | [] => 1
  | b :: r => if small b = true ∧ (b :: r).all (fun c => small c || dig c) = true then (if 12 < (b :: r).length then 2 else 0) else 1
def chk (t : Tk) : Nat :=
  if t.k < 1 ∨ 5 < t.k then 7
  else if (t.n ≠ 0 ∧ t.k ≠ 2) ∨ (t.s ≠ [] ∧ t.k = 2) then 1
  else if t.k = 1 then chkWord t.s
  else if t.k = 2 then (if t.n < 0 then 3 else 0)
  else if t.k = 5 then (if t.s ∈ signs then 0 else 1)
  else if 16 < t.s.length then 2 else 0
def shw (t : Tk) : Bs :=
  if t.k = 1 ∨ t.k = 5 then t.s
  else if t.k = 2 then VS.shw 1 t.n []
  else if t.k = 3 then VS.shw 2 0 t.s
  else VS.shw 3 0 t.s
end LX
end Go.Proofs.YtoagobpkenfbkaaGreatDoor
