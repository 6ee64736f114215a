/-
  What Write of package record answers, for every row.
-/
import Derived.Test.YtefojbfihnnpdaaDoorRowP
import Derived.Test.YtefojbfihnnpdaaDoorBld
import Derived.Test.YtefojbfihnnpdaaDoorSigned
import Derived.Test.YtefojbfihnnpdaaDoorWMath
namespace Go.Proofs.YtefojbfihnnpdaaDoor
open Go.ChangeShapes Go.WideShapes Go.ChangeAt Go.RowKit
set_option linter.unusedVariables false
set_option linter.unusedSimpArgs false

/-- numbers of a row are numbers of 64 bits -/
def Wide (l : List VM.Vl) : Prop := ∀ x ∈ l, -9223372036854775808 ≤ x.n ∧ x.n ≤ 9223372036854775807

theorem mk_size (l : List UInt8) : (⟨l.toArray⟩ : ByteArray).size = l.length := by simp [ByteArray.size]
theorem alloc_top (w : World) (o : Obj) : (w.alloc o).heap[w.heap.size]? = some o := by
  show (w.heap.push o)[w.heap.size]? = _
  rw [Array.getElem?_push_size]
theorem keepsVal {b : Nat} {w w' : World} {g : Nat} {c : Array Value} (hk : Lib.OthersKept 5 (some b) w w') (h : w.heap[g]? = some (.cells c 46 (0, 0))) (hg : g ≠ b) : w'.heap[g]? = some (.cells c 46 (0, 0)) :=
  hk g _ h (by simpa using hg) (by intro c fz e; cases e)

set_option maxRecDepth 100000 in
set_option maxHeartbeats 1000000 in
theorem recWrite_bad (v : Value) (l : List VM.Vl) (w : World) (hr : IsRow w v l) (hbig : l.length ≤ 9223372036854775807) (hc : VM.chkRow l ≠ 0) :
    Calls Tryd.prog 52 #[v] w fun e w' => e = .returned (.tuple #[.string ⟨#[]⟩, .int .i64 (VM.chkRow l)]) ∧ Fr w w' := by
  have hck := checkRow_any v l w hr hbig
  generalize VM.chkRow l = c at *
  have hne1 : ((c : Int) != 0) = true := by simp; omega
  have hne2 : ¬ ((c : Int) = 0) := by omega
  clear hr
  go_enter Tryd.func52, Tryd.ntmps52
  go_wp2_with (go_at_call 62; refine hck.mono ?_)
  rintro e w1 ⟨rfl, hf⟩
  go_wp2_with fail
  go_ret2
  exact ⟨rfl, hf⟩

set_option maxRecDepth 100000 in
set_option maxHeartbeats 2000000 in
theorem recWrite_ok (v : Value) (l : List VM.Vl) (w : World) (hr : IsRow w v l) (hw : Wide l) (hc : VM.chkRow l = 0) :
    Calls Tryd.prog 52 #[v] w fun e w' => e = .returned (.tuple #[.string ⟨(WM.row l).toArray⟩, .int .i64 0]) ∧ Fr w w' := by
  obtain ⟨h8, hall⟩ := WM.chkRow_ok hc
  have hck := checkRow_any v l w hr (by omega)
  rw [hc] at hck
  obtain ⟨a, cap, rfl, hcs⟩ := hr
  have HC : Hid _ := hcs
  have hwn := fun W => write_any l.length W (by omega)
  have hnl : (NM.enc l.length).length ≤ 10 := NM.enc_ten (by omega)
  clear hcs hc
  go_enter Tryd.func52, Tryd.ntmps52
  go_wp2_with (go_at_call 62; refine hck.mono ?_)
  rintro e w1 ⟨rfl, hf⟩
  have HF : Hid _ := hf
  have hsz := hf.size
  clear hck hf
  go_wp2_with (go_at_call 64; refine (hwn _).mono ?_)
  rintro e w2 ⟨rfl, hf2⟩
  have hb2 : Bd w1.heap.size w1.heap.size [] w2 := (Bd.fresh w1).keep (fun k h1 h2 => hf2.block k h2)
  have hbel : Below w1.heap.size w1 w2 := ((Below.refl w1.heap.size w1).alloc (Nat.le_refl _) _).trans (Below.mono hf2 (by simp))
  have hsz2 := hbel.size
  have hes : (⟨(NM.enc l.length).toArray⟩ : ByteArray).data.toList = NM.enc l.length := by simp
  have hes2 : (⟨(NM.enc l.length).toArray⟩ : ByteArray).size = (NM.enc l.length).length := by simp [ByteArray.size]
  have hws := writeString_any w1.heap.size w1.heap.size [] ⟨(NM.enc l.length).toArray⟩ w2 hb2 (by rw [hes2]; simp only [List.length_append, List.length_cons, List.length_nil]; omega) hsz2
  rw [hes, List.nil_append] at hws
  generalize (⟨(NM.enc l.length).toArray⟩ : ByteArray) = ns at *
  have HBel : Hid _ := hbel
  clear hf2 hb2 hwn hbel
  go_wp2_with (go_at_call 63; refine hws.mono ?_)
  rintro e w3 ⟨rfl, hb3, hbel3, hk3⟩
  have HB3 : Hid _ := hb3
  have HBel3 : Hid _ := HBel.out.trans hbel3
  clear hws hb3 hbel3 hk3 HBel
  go_wp2_with fail
  generalize hB : w1.heap.size = B at *
  go_loopw [20] (fun iv wr => ∃ (i : Nat) (acc : List UInt8), iv = .int .i64 i ∧ i ≤ l.length ∧ acc ++ (l.drop i).flatMap WM.vb = WM.row l ∧ acc.length ≤ 10 + 31 * i ∧ Bd B B acc wr ∧ Below B w1 wr) (fun iv _ => l.length - (intOf iv).toNat)
  case atStart => exact ⟨0, NM.enc l.length, rfl, Nat.zero_le _, rfl, by omega, HB3.out, HBel3.out⟩
  case round =>
    obtain ⟨i, acc, rfl, hi, hacc, hal, hbd, hbe⟩ := hrel
    by_cases hlt : i < l.length
    · obtain ⟨b, o, rfl, hb, hc⟩ : ∃ b o, a = some ⟨b, o, none⟩ ∧ b < w.heap.size ∧ CellsAt w b o l := by
        rcases HC.out with h | h
        · subst h; simp at hlt
        · exact h
      have hfr : Fr w wr := Below.trans HF.out (Below.mono hbe hsz)
      obtain ⟨c0, c1, c2⟩ := (hc.fr hb hfr) i hlt
      have hchk := hall l[i] (List.getElem_mem hlt)
      have hwid := hw l[i] (List.getElem_mem hlt)
      have hbl := WM.body_len hchk hwid
      have hcp := WM.chk_ok hchk
      have hdr : acc ++ (l.drop i).flatMap WM.vb = (acc ++ [UInt8.ofNat l[i].k.toNat]) ++ WM.body l[i] ++ (l.drop (i + 1)).flatMap WM.vb := by
        rw [List.drop_eq_getElem_cons hlt, List.flatMap_cons, WM.vb]
        simp
      rw [hdr] at hacc
      generalize hx : l[i] = x at c0 c1 c2 hchk hwid hbl hcp hacc
      obtain ⟨k, n, s⟩ := x
      simp only at c0 c1 c2 hwid hcp hacc
      have HX : Hid _ := hx
      have HA : Hid _ := hacc
      clear hx hdr hc hacc hfr hchk
      obtain ⟨k0, k3, kn, ks, s16⟩ := hcp
      have HL : Hid _ := hbl
      have HBE : Hid _ := hbe
      have hge : B ≤ wr.heap.size := by have := hbe.size; omega
      have hbw : B < wr.heap.size := hbd.lt
      have hBA : Bd B B acc (wr.alloc (.cells #[.int .i64 k, .int .i64 n, .string s] 46)) := hbd.keep (fun q h1 h2 => Below.heap_alloc _ _ _ h2)
      have hbe2 : Below B w1 (wr.alloc (.cells #[.int .i64 k, .int .i64 n, .string s] 46)) := hbe.alloc hge _
      have HV : Hid _ := alloc_top wr (.cells #[.int .i64 k, .int .i64 n, .string s] 46)
      have hge2 : B ≤ (wr.alloc (.cells #[.int .i64 k, .int .i64 n, .string s] 46)).heap.size := by simp; omega
      clear hbl hbe hbd
      have hk : k = 0 ∨ k = 1 ∨ k = 2 ∨ k = 3 := by omega
      rcases hk with rfl | rfl | rfl | rfl
      · have hwb : Calls Tryd.prog 65 #[.pointer (some ⟨B, 0, none⟩), .int .u8 0] _ _ := writeByte_any B B acc 0 _ hBA (by omega) hge2
        have HBE2 : Hid _ := hbe2
        clear hBA hbe2 hge2 k0 k3 kn ks
        go_wp2_with (go_at_call 65; refine hwb.mono ?_)
        rintro e w4 ⟨rfl, hb4, hbe4, hk4⟩
        have hvb := keepsVal hk4 HV.out (by omega)
        have v0 : w4.cell? ⟨wr.heap.size, 0, none⟩ = some (.int .i64 0) := by rw [Lib.cell_of_heap hvb]; rfl
        have v1 : w4.cell? ⟨wr.heap.size, 1, none⟩ = some (.int .i64 n) := by rw [Lib.cell_of_heap hvb]; rfl
        have v2 : w4.cell? ⟨wr.heap.size, 2, none⟩ = some (.string s) := by rw [Lib.cell_of_heap hvb]; rfl
        have HBE4 : Hid _ := Below.trans HBE2.out hbe4
        have hge4 : B ≤ w4.heap.size := by have := hb4.lt; omega
        have HVB : Hid _ := hvb
        clear hwb hbe4 hk4 hvb HV c0 c1 c2
        have HB4 : Hid _ := hb4
        clear hb4
        have HA1 : Hid ((acc ++ [0]) ++ (l.drop (i + 1)).flatMap WM.vb = WM.row l) := by
          have := HA.out
          rw [show WM.body ⟨0, n, s⟩ = [] from rfl, List.append_nil] at this
          exact this
        go_wp2_with fail
        go_roundw
        case rel => exact ⟨i + 1, acc ++ [0], by go_num, by omega, HA1.out, by simp; omega, HB4.out, HBE4.out⟩
        case measure => simp [intOf]; omega
      · have hwb : Calls Tryd.prog 65 #[.pointer (some ⟨B, 0, none⟩), .int .u8 1] _ _ := writeByte_any B B acc 1 _ hBA (by omega) hge2
        have HBE2 : Hid _ := hbe2
        clear hBA hbe2 hge2 k0 k3 kn ks
        go_wp2_with (go_at_call 65; refine hwb.mono ?_)
        rintro e w4 ⟨rfl, hb4, hbe4, hk4⟩
        have hvb := keepsVal hk4 HV.out (by omega)
        have v0 : w4.cell? ⟨wr.heap.size, 0, none⟩ = some (.int .i64 1) := by rw [Lib.cell_of_heap hvb]; rfl
        have v1 : w4.cell? ⟨wr.heap.size, 1, none⟩ = some (.int .i64 n) := by rw [Lib.cell_of_heap hvb]; rfl
        have v2 : w4.cell? ⟨wr.heap.size, 2, none⟩ = some (.string s) := by rw [Lib.cell_of_heap hvb]; rfl
        have HBE4 : Hid _ := Below.trans HBE2.out hbe4
        have hge4 : B ≤ w4.heap.size := by have := hb4.lt; omega
        have HVB : Hid _ := hvb
        clear hwb hbe4 hk4 hvb HV c0 c1 c2
        have hsg := signed_any n w4 hwid.1 hwid.2
        have hb4' := hb4
        have HB4 : Hid _ := hb4
        clear hb4 hb4'
        go_wp2_with (go_at_call 53; refine hsg.mono ?_)
        rintro e w5 ⟨rfl, hf5⟩
        have hb5 : Bd B B (acc ++ [1]) w5 := Bd.keep HB4.out (fun q h1 h2 => hf5.block q h2)
        have hbe5 : Below B w1 w5 := Below.trans HBE4.out (Below.mono hf5 hge4)
        have hge5 : B ≤ w5.heap.size := by have := hb5.lt; omega
        have hes : (⟨(NM.enc (zigN n).toNat).toArray⟩ : ByteArray).data.toList = WM.body ⟨1, n, s⟩ := by simp [WM.body, WM.zig, zigN]
        have hes2 : (⟨(NM.enc (zigN n).toNat).toArray⟩ : ByteArray).size = (WM.body ⟨1, n, s⟩).length := by rw [← hes, Array.length_toList]; rfl
        generalize (⟨(NM.enc (zigN n).toNat).toArray⟩ : ByteArray) = zs at *
        have hl5 := HL.out
        have hws := writeString_any B B (acc ++ [1]) zs w5 hb5 (by rw [hes2]; simp only [List.length_append, List.length_cons, List.length_nil]; omega) hge5
        rw [hes] at hws
        have HBE5 : Hid _ := hbe5
        clear hsg hf5 hb5 hbe5 hl5
        go_wp2_with (go_at_call 63; refine hws.mono ?_)
        rintro e w6 ⟨rfl, hb6, hbe6, hk6⟩
        have HB6 : Hid _ := hb6
        have HBE6 : Hid _ := Below.trans HBE5.out hbe6
        clear hws hb6 hbe6 hk6
        go_wp2_with fail
        go_roundw
        case rel => exact ⟨i + 1, (acc ++ [1]) ++ WM.body ⟨1, n, s⟩, by go_num, by omega, HA.out, by have := HL.out; simp only [List.length_append, List.length_cons, List.length_nil]; omega, HB6.out, HBE6.out⟩
        case measure => simp [intOf]; omega
      · have hwb : Calls Tryd.prog 65 #[.pointer (some ⟨B, 0, none⟩), .int .u8 2] _ _ := writeByte_any B B acc 2 _ hBA (by omega) hge2
        have HBE2 : Hid _ := hbe2
        clear hBA hbe2 hge2 k0 k3 kn ks
        go_wp2_with (go_at_call 65; refine hwb.mono ?_)
        rintro e w4 ⟨rfl, hb4, hbe4, hk4⟩
        have hvb := keepsVal hk4 HV.out (by omega)
        have v0 : w4.cell? ⟨wr.heap.size, 0, none⟩ = some (.int .i64 2) := by rw [Lib.cell_of_heap hvb]; rfl
        have v1 : w4.cell? ⟨wr.heap.size, 1, none⟩ = some (.int .i64 n) := by rw [Lib.cell_of_heap hvb]; rfl
        have v2 : w4.cell? ⟨wr.heap.size, 2, none⟩ = some (.string s) := by rw [Lib.cell_of_heap hvb]; rfl
        have HBE4 : Hid _ := Below.trans HBE2.out hbe4
        have hge4 : B ≤ w4.heap.size := by have := hb4.lt; omega
        have HVB : Hid _ := hvb
        clear hwb hbe4 hk4 hvb HV c0 c1 c2
        have hsl : s.size < 18446744073709551616 := by omega
        have hwl := write_any s.size w4 hsl
        have HB4 : Hid _ := hb4
        clear hb4
        have hel : (NM.enc s.size).length ≤ 10 := NM.enc_ten hsl
        go_wp2_with (go_at_call 64; refine hwl.mono ?_)
        rintro e w5 ⟨rfl, hf5⟩
        have hb5 : Bd B B (acc ++ [2]) w5 := Bd.keep HB4.out (fun q h1 h2 => hf5.block q h2)
        have hbe5 : Below B w1 w5 := Below.trans HBE4.out (Below.mono hf5 hge4)
        have hge5 : B ≤ w5.heap.size := by have := hb5.lt; omega
        have hvl : wr.heap.size < w4.heap.size := (Array.getElem?_eq_some_iff.1 HVB.out).1
        have hvb5 := (hf5.block _ hvl).trans HVB.out
        have hes : (⟨(NM.enc s.size).toArray⟩ : ByteArray).data.toList = NM.enc s.size := by simp
        have hes2 : (⟨(NM.enc s.size).toArray⟩ : ByteArray).size = (NM.enc s.size).length := mk_size _
        generalize (⟨(NM.enc s.size).toArray⟩ : ByteArray) = zs at *
        have hws := writeString_any B B (acc ++ [2]) zs w5 hb5 (by rw [hes2]; simp only [List.length_append, List.length_cons, List.length_nil]; omega) hge5
        rw [hes] at hws
        have HBE5 : Hid _ := hbe5
        have HVB5 : Hid _ := hvb5
        clear hwl hf5 hb5 hbe5 hvb5 v0 v1 v2
        go_wp2_with (go_at_call 63; refine hws.mono ?_)
        rintro e w6 ⟨rfl, hb6, hbe6, hk6⟩
        have hvb6 := keepsVal hk6 HVB5.out (by omega)
        have v2 : w6.cell? ⟨wr.heap.size, 2, none⟩ = some (.string s) := by rw [Lib.cell_of_heap hvb6]; rfl
        have hge6 : B ≤ w6.heap.size := by have := hb6.lt; omega
        have hws2 := writeString_any B B ((acc ++ [2]) ++ NM.enc s.size) s w6 hb6 (by simp only [List.length_append, List.length_cons, List.length_nil]; omega) hge6
        have HBE6 : Hid _ := Below.trans HBE5.out hbe6
        clear hws hb6 hbe6 hk6 hvb6
        go_wp2_with (go_at_call 63; refine hws2.mono ?_)
        rintro e w7 ⟨rfl, hb7, hbe7, hk7⟩
        have HB7 : Hid _ := hb7
        have HBE7 : Hid _ := Below.trans HBE6.out hbe7
        have hds : s.data.toList.length = s.size := by rw [Array.length_toList]; rfl
        have HA1 : Hid (((acc ++ [2]) ++ NM.enc s.size ++ s.data.toList) ++ (l.drop (i + 1)).flatMap WM.vb = WM.row l) := by
          have := HA.out
          rw [show WM.body ⟨2, n, s⟩ = NM.enc s.size ++ s.data.toList from rfl, ← List.append_assoc (acc ++ [UInt8.ofNat (Int.toNat 2)])] at this
          exact this
        clear hws2 hb7 hbe7 hk7
        go_wp2_with fail
        go_roundw
        case rel => exact ⟨i + 1, (acc ++ [2]) ++ NM.enc s.size ++ s.data.toList, by go_num, by omega, HA1.out, by simp only [List.length_append, List.length_cons, List.length_nil]; omega, HB7.out, HBE7.out⟩
        case measure => simp [intOf]; omega
      · have hwb : Calls Tryd.prog 65 #[.pointer (some ⟨B, 0, none⟩), .int .u8 3] _ _ := writeByte_any B B acc 3 _ hBA (by omega) hge2
        have HBE2 : Hid _ := hbe2
        clear hBA hbe2 hge2 k0 k3 kn ks
        go_wp2_with (go_at_call 65; refine hwb.mono ?_)
        rintro e w4 ⟨rfl, hb4, hbe4, hk4⟩
        have hvb := keepsVal hk4 HV.out (by omega)
        have v0 : w4.cell? ⟨wr.heap.size, 0, none⟩ = some (.int .i64 3) := by rw [Lib.cell_of_heap hvb]; rfl
        have v1 : w4.cell? ⟨wr.heap.size, 1, none⟩ = some (.int .i64 n) := by rw [Lib.cell_of_heap hvb]; rfl
        have v2 : w4.cell? ⟨wr.heap.size, 2, none⟩ = some (.string s) := by rw [Lib.cell_of_heap hvb]; rfl
        have HBE4 : Hid _ := Below.trans HBE2.out hbe4
        have hge4 : B ≤ w4.heap.size := by have := hb4.lt; omega
        have HVB : Hid _ := hvb
        clear hwb hbe4 hk4 hvb HV c0 c1 c2
        have hsl : s.size < 18446744073709551616 := by omega
        have hwl := write_any s.size w4 hsl
        have HB4 : Hid _ := hb4
        clear hb4
        have hel : (NM.enc s.size).length ≤ 10 := NM.enc_ten hsl
        go_wp2_with (go_at_call 64; refine hwl.mono ?_)
        rintro e w5 ⟨rfl, hf5⟩
        have hb5 : Bd B B (acc ++ [3]) w5 := Bd.keep HB4.out (fun q h1 h2 => hf5.block q h2)
        have hbe5 : Below B w1 w5 := Below.trans HBE4.out (Below.mono hf5 hge4)
        have hge5 : B ≤ w5.heap.size := by have := hb5.lt; omega
        have hvl : wr.heap.size < w4.heap.size := (Array.getElem?_eq_some_iff.1 HVB.out).1
        have hvb5 := (hf5.block _ hvl).trans HVB.out
        have hes : (⟨(NM.enc s.size).toArray⟩ : ByteArray).data.toList = NM.enc s.size := by simp
        have hes2 : (⟨(NM.enc s.size).toArray⟩ : ByteArray).size = (NM.enc s.size).length := mk_size _
        generalize (⟨(NM.enc s.size).toArray⟩ : ByteArray) = zs at *
        have hws := writeString_any B B (acc ++ [3]) zs w5 hb5 (by rw [hes2]; simp only [List.length_append, List.length_cons, List.length_nil]; omega) hge5
        rw [hes] at hws
        have HBE5 : Hid _ := hbe5
        have HVB5 : Hid _ := hvb5
        clear hwl hf5 hb5 hbe5 hvb5 v0 v1 v2
        go_wp2_with (go_at_call 63; refine hws.mono ?_)
        rintro e w6 ⟨rfl, hb6, hbe6, hk6⟩
        have hvb6 := keepsVal hk6 HVB5.out (by omega)
        have v2 : w6.cell? ⟨wr.heap.size, 2, none⟩ = some (.string s) := by rw [Lib.cell_of_heap hvb6]; rfl
        have hge6 : B ≤ w6.heap.size := by have := hb6.lt; omega
        have hws2 := writeString_any B B ((acc ++ [3]) ++ NM.enc s.size) s w6 hb6 (by simp only [List.length_append, List.length_cons, List.length_nil]; omega) hge6
        have HBE6 : Hid _ := Below.trans HBE5.out hbe6
        clear hws hb6 hbe6 hk6 hvb6
        go_wp2_with (go_at_call 63; refine hws2.mono ?_)
        rintro e w7 ⟨rfl, hb7, hbe7, hk7⟩
        have HB7 : Hid _ := hb7
        have HBE7 : Hid _ := Below.trans HBE6.out hbe7
        have hds : s.data.toList.length = s.size := by rw [Array.length_toList]; rfl
        have HA1 : Hid (((acc ++ [3]) ++ NM.enc s.size ++ s.data.toList) ++ (l.drop (i + 1)).flatMap WM.vb = WM.row l) := by
          have := HA.out
          rw [show WM.body ⟨3, n, s⟩ = NM.enc s.size ++ s.data.toList from rfl, ← List.append_assoc (acc ++ [UInt8.ofNat (Int.toNat 3)])] at this
          exact this
        clear hws2 hb7 hbe7 hk7
        go_wp2_with fail
        go_roundw
        case rel => exact ⟨i + 1, (acc ++ [3]) ++ NM.enc s.size ++ s.data.toList, by go_num, by omega, HA1.out, by simp only [List.length_append, List.length_cons, List.length_nil]; omega, HB7.out, HBE7.out⟩
        case measure => simp [intOf]; omega
    · obtain rfl : i = l.length := by omega
      rw [List.drop_length, List.flatMap_nil, List.append_nil] at hacc
      subst hacc
      have hst := Tryd.Builder_String_any B B (WM.row l) wr hbd (by have := hbe.size; omega)
      have HBE : Hid _ := hbe
      clear hbd hbe
      go_wp2_with (go_at_call 66; refine hst.mono ?_)
      rintro e w9 ⟨rfl, hb9⟩
      have HE : Hid _ := Below.trans HF.out (Below.mono (Below.trans HBE.out hb9) hsz)
      clear hst hb9
      go_wp2_with fail
      go_ret2
      exact ⟨rfl, HE.out⟩
end Go.Proofs.YtefojbfihnnpdaaDoor
