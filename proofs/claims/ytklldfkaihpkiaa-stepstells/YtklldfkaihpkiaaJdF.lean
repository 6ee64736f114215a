/-
  What checkWrites of package journal answers.
-/
import Derived.Test.YtklldfkaihpkiaaJdD
namespace Go.Proofs.Ytklldfkaihpkiaa
open Go.ChangeShapes Go.WideShapes Go.ChangeAt Go.RowKit
set_option linter.unusedVariables false
set_option linter.unusedSimpArgs false
set_option maxRecDepth 100000

namespace JN
def nmd (l : List W) (n : Nat) : Bool := l.any fun x => x.no == (n : Int)
theorem nmd_snoc (l : List W) (w : W) (k : Nat) (hk : w.no = (k : Int)) (n : Nat) : nmd (l ++ [w]) n = (nmd l n || decide (k = n)) := by
  unfold nmd
  rw [List.any_append]
  simp only [List.any_cons, List.any_nil, Bool.or_false, hk]
  congr 1
  rw [Bool.eq_iff_iff]
  simp only [beq_iff_eq, decide_eq_true_eq]
  omega
theorem read_rest {d : D} (h : OkD d) (hw : d.wt = []) (n : Nat) (hn : n < 32) : (readD d (n : Int)).1 = fn d.pg n := by
  rw [readD, if_pos ((dchk_ok d).2 h), if_neg (by omega), hw, Int.toNat_natCast]; rfl
theorem each_step (o : Pg B) (b : List W) (w : W) (l : List W) : eachW o b (w :: l) = if w.no < 0 ∨ 31 < w.no then 3 else if 256 < w.t.size then 2
    else if b.any (fun x => x.no == w.no) then 6 else if 256 < (o w.no.toNat).size then 2 else eachW o (b ++ [w]) l := by rw [eachW]
end JN
def bV (f : Nat → Bool) : Array Value := ((List.range 32).map fun n => Value.bool (f n)).toArray
theorem bV_get (f : Nat → Bool) (n : Nat) (h : n < 32) : (bV f)[n]? = some (.bool (f n)) := by simp [bV, h]
theorem bV_set (f g : Nat → Bool) (n : Nat) (hg : ∀ i, g i = (f i || decide (n = i))) : (bV f).setIfInBounds n (.bool true) = bV g := by
  apply Array.ext_getElem?
  intro i
  rw [Array.getElem?_setIfInBounds]
  by_cases hi : i < 32
  · rw [bV_get g i hi, hg]
    by_cases e : n = i
    · subst e
      rw [if_pos rfl, if_pos (by simp [bV]; exact hi)]; simp
    · rw [if_neg e, bV_get f i hi]; simp [e]
  · have h1 : (bV g)[i]? = none := by simp [bV]; omega
    have h2 : (bV f)[i]? = none := by simp [bV]; omega
    rw [h1]
    by_cases e : n = i
    · rw [if_pos e, if_neg (by simp [bV]; omega)]
    · rw [if_neg e, h2]

set_option maxHeartbeats 2000000 in
theorem checkWrites_any (p q v : Value) (d : JN.D) (l : List JN.W) (w : World) (hr : IsD w p q d) (hok : JN.OkD d) (hw : d.wt = []) (hv : IsL cdW w v l) :
    Calls Try.prog 58 #[.agg #[p, q], v] w fun e w' => e = .returned (.int .i64 ((if 31 < l.length then 2 else JN.eachW (JN.fn d.pg) [] l : Nat) : Int)) ∧ Fr w w' := by
  obtain ⟨a, cap, rfl, hcap, hcs⟩ := hv
  have HC := hideP hcs
  have hlen := hok.len
  have ch := fun (n : Nat) (hn : n < 32) W (f : Fr w W) => by
    have c := has_any p q d (n : Int) W (hr.fr f) (by omega)
    rw [JN.read_rest hok hw n hn] at c
    exact c
  have CH := hideP ch
  obtain ⟨ap, np, cp, rfl⟩ := hr.1.slice
  obtain ⟨aq, nq, cq, rfl⟩ := hr.2.slice
  clear hcs ch hr hw hok
  generalize JN.fn d.pg = o at CH
  by_cases h31 : 31 < l.length
  · have h31' : (31 : Int) < (l.length : Int) := by omega
    rw [if_pos h31]
    go_enter Try.func58, Try.ntmps58
    go_wp2_with fail
    go_ret
    exact ⟨rfl, (Fr.refl w).alloc _⟩
  · have h31' : ¬ (31 : Int) < (l.length : Int) := by omega
    rw [if_neg h31]
    generalize hfin : JN.eachW o [] l = fin
    have HFin := hideP hfin
    clear hfin
    have b0 := (Blk.new w #[.slice ap np cp, .slice aq nq cq] 25).old (.cells (bV (JN.nmd [])) 99)
    have b1 := Blk.new (w.alloc (.cells #[.slice ap np cp, .slice aq nq cq] 25)) (bV (JN.nmd [])) 99
    rw [World.size_alloc] at b1
    have HB0 := hideP b0
    have HB1 := hideP b1
    clear b0 b1
    go_enter Try.func58, Try.ntmps58
    go_wp2_with fail
    go_loopw [7, 13] (fun _ iv wr => ∃ i : Nat, iv = .int .i64 i ∧ i ≤ l.length ∧ fin = JN.eachW o (l.take i) (l.drop i) ∧ Blk wr w.heap.size #[.slice ap np cp, .slice aq nq cq] 25 ∧ Blk wr (w.heap.size + 1) (bV (JN.nmd (l.take i))) 99 ∧ Fr w wr) (fun _ iv _ => l.length - (intOf iv).toNat)
    case atStart => exact ⟨0, rfl, Nat.zero_le _, HFin.out.symm, HB0.out, HB1.out, ((Fr.refl w).alloc _).alloc _⟩
    case round =>
      obtain ⟨i, rfl, hi, hall, hbd, hbn, hfr⟩ := hrel
      by_cases hlt : i < l.length
      · obtain ⟨b, ofs, rfl, hb, hc⟩ : ∃ b o, a = some ⟨b, o, none⟩ ∧ b < w.heap.size ∧ At cdW w b o l := by
          rcases HC.out with h | h
          · subst h; simp at hlt
          · exact h
        obtain ⟨c0, c1⟩ := (hc.fr hb hfr).wr i hlt
        rw [List.drop_eq_getElem_cons hlt, JN.each_step] at hall
        have hts : l.take (i + 1) = l.take i ++ [l[i]] := List.take_succ_eq_append_getElem hlt
        have hany : ∀ k : Nat, l[i].no = (k : Int) → (l.take i).any (fun x => x.no == l[i].no) = JN.nmd (l.take i) k := fun k hk => by rw [hk]; rfl
        have hsn := JN.nmd_snoc (l.take i) l[i]
        rw [← hts] at hsn hall
        generalize hx : l[i] = x at c0 c1 hall hany hsn
        obtain ⟨x1, x2⟩ := x
        simp only at c0 c1 hall hany hsn
        have HA := hideP hall
        have HN := hideP hany
        have HSn := hideP hsn
        have HF := hideP hfr
        have HBD := hideP (hbd.old (.cells #[.int .i64 x1, .string x2] 43))
        have HBN := hideP (hbn.old (.cells #[.int .i64 x1, .string x2] 43))
        have f2 : Fr w (wr.alloc (.cells #[.int .i64 x1, .string x2] 43)) := hfr.alloc _
        have HF2 := hideP f2
        have hsz : w.heap.size + 1 < wr.heap.size := hbn.lt
        clear hall hany hsn hfr hbd hbn hc hts hx f2
        by_cases hr1 : x1 < 0 ∨ 31 < x1
        · have HA' := hideP (HA.out.trans (if_pos hr1))
          rcases hr1 with hr1 | hr1
          · go_wp2_with fail
            go_ret
            exact ⟨ret_int (by rw [HA'.out]; rfl), HF2.out⟩
          · have hr2 : ¬ x1 < 0 := by omega
            have hr3 : 32 ≤ x1 := by omega
            go_wp2_with fail
            go_ret
            exact ⟨ret_int (by rw [HA'.out]; rfl), HF2.out⟩
        · have HA' := hideP (HA.out.trans (if_neg hr1))
          obtain ⟨n, rfl⟩ := Int.eq_ofNat_of_zero_le (show 0 ≤ x1 by omega)
          have hn32 : n < 32 := by omega
          have hn0 : ¬ (n : Int) < 0 := by omega
          have hn1 : (n : Int) < 32 := by omega
          clear HA hr1
          by_cases hs : 256 < x2.size
          · have HA2 := hideP (HA'.out.trans (if_pos hs))
            have hsZ : (256 : Int) < (x2.size : Int) := by omega
            go_wp2_with fail
            go_ret
            exact ⟨ret_int (by rw [HA2.out]; rfl), HF2.out⟩
          · have HA2 := hideP (HA'.out.trans (if_neg hs))
            have hsZ : ¬ (256 : Int) < (x2.size : Int) := by omega
            rw [HN.out n rfl] at HA2
            have d0 := HBN.out.cell n (bV_get (JN.nmd (l.take i)) n hn32)
            have z0 := HBN.out.frozen n
            clear HA'
            have hch := CH.out n hn32 (wr.alloc (.cells #[.int .i64 (n : Int), .string x2] 43)) HF2.out
            rw [Int.toNat_natCast] at HA2
            cases hnm : JN.nmd (l.take i) n with
            | true =>
              rw [hnm] at HA2 d0
              go_wp2_with fail
              go_ret
              exact ⟨ret_int (by rw [HA2.out]; rfl), HF2.out⟩
            | false =>
              rw [hnm] at HA2 d0
              obtain ⟨k0, k1, _, _⟩ := HBD.out.two
              generalize ho : o n = on at hch HA2
              go_wp2_with fail
              refine hch.mono ?_
              rintro _ w3 ⟨rfl, f3⟩
              have c2 := ((Blk.new wr #[.int .i64 (n : Int), .string x2] 43).fr f3).cell 0 (u := .int .i64 (n : Int)) rfl
              have d3 := (HBN.out.fr f3).cell n (bV_get (JN.nmd (l.take i)) n hn32)
              have z3 := (HBN.out.fr f3).frozen n
              have HB3 := hideP (HBN.out.fr f3)
              have HD3 := hideP (HBD.out.fr f3)
              have HF3 := hideP (HF2.out.trans f3)
              clear f3 d0 z0 k0 k1 hch c0 c1
              by_cases hon : 256 < on.size
              · have HA3 := hideP (HA2.out.trans (if_neg (by simp)) |>.trans (if_pos hon))
                have honZ : (256 : Int) < (on.size : Int) := by omega
                go_wp2_with fail
                go_ret
                exact ⟨ret_int (by rw [HA3.out]; rfl), HF3.out⟩
              · have HA3 := hideP (HA2.out.trans (if_neg (by simp)) |>.trans (if_neg hon))
                have honZ : ¬ (256 : Int) < (on.size : Int) := by omega
                go_wp2_with fail
                go_roundw
                case rel => exact ⟨i + 1, by go_num, by omega, HA3.out, HD3.out.other (by omega) _ _, by rw [← bV_set (JN.nmd (l.take i)) _ n (HSn.out n rfl)]; exact HB3.out.set n _, HF3.out.setCell _ _ _ (by omega)⟩
                case measure => simp [intOf]; omega
      · have HN : Hid (fin = 0) := by
          unfold Hid
          rw [hall, List.drop_of_length_le (by omega)]; rfl
        clear hall
        go_wp2_with fail
        go_ret
        exact ⟨ret_int (by rw [HN.out]; rfl), hfr⟩
end Go.Proofs.Ytklldfkaihpkiaa
