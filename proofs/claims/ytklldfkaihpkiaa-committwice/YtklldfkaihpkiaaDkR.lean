/-
  What the document's answers on disks say: PageAt, LastOf, Settled, DiskCheck, ReadOf, WriteOf, CrashOf.
-/
import Derived.Test.YtklldfkaihpkiaaDkC
namespace Go.Proofs.Ytklldfkaihpkiaa
open Go.ChangeShapes Go.WideShapes Go.ChangeAt Go.RowKit
set_option linter.unusedVariables false
set_option linter.unusedSimpArgs false
set_option maxRecDepth 100000
set_option maxHeartbeats 1000000

namespace JN
def pageAt (l : List B) (no : Int) : B := if no < 0 then bl else fn l no.toNat
end JN
theorem pageAt_any (v : Value) (l : List JN.B) (no : Int) (w : World) (h : IsL cdP w v l) :
    Calls Try.prog 28 #[v, .int .i64 no] w fun e w' => e = .returned (.string (JN.pageAt l no)) ∧ w' = w := by
  obtain ⟨a, cap, rfl, hcap, hcs⟩ := h
  by_cases h0 : no < 0
  · clear hcs
    go_enter Try.func28, Try.ntmps28
    go_wp2_with fail
    go_ret
    exact ⟨ret_ba (by rw [JN.pageAt, if_pos h0]; rfl), rfl⟩
  · obtain ⟨n, rfl⟩ := Int.eq_ofNat_of_zero_le (by omega : 0 ≤ no)
    by_cases h1 : n < l.length
    · obtain ⟨b, o, rfl, hb, hc⟩ : ∃ b o, a = some ⟨b, o, none⟩ ∧ b < w.heap.size ∧ At cdP w b o l := by
        rcases hcs with h | h
        · subst h; simp at h1
        · exact h
      have c0 := hc.pg n h1
      have h1' : (n : Int) < (l.length : Int) := by omega
      have HQ : Hid (JN.pageAt l (n : Int) = l[n]) := by
        unfold Hid
        rw [JN.pageAt, if_neg h0, Int.toNat_natCast, JN.fn, List.getD_eq_getElem?_getD, List.getElem?_eq_getElem h1]; rfl
      generalize l[n] = x at c0 HQ
      clear hc hcs
      go_enter Try.func28, Try.ntmps28
      go_wp2_with fail
      go_ret
      exact ⟨ret_ba (by rw [HQ.out]), rfl⟩
    · have h1' : ¬ (n : Int) < (l.length : Int) := by omega
      have h1'' : (l.length : Int) ≤ (n : Int) := by omega
      clear hcs
      go_enter Try.func28, Try.ntmps28
      go_wp2_with fail
      go_ret
      exact ⟨ret_ba (by rw [JN.pageAt, if_neg (by omega), Int.toNat_natCast, JN.fn, List.getD_eq_getElem?_getD, List.getElem?_eq_none (by omega)]; rfl), rfl⟩

theorem lastOf_any (p q : Value) (l : List JN.B) (wt : List JN.W) (m : Nat) (no : Int) (w : World) (h : IsL cdP w p l) (h2 : IsL cdW w q wt) (hm : m < 18446744073709551616) (hbig : wt.length ≤ 9223372036854775806) :
    Calls Try.prog 53 #[p, q, .int .u64 m, .int .i64 no] w fun e w' => e = .returned (.string (JN.lastP no (JN.pageAt l no) wt m)) ∧ w' = w := by
  have c := pageAt_any p l no w h
  obtain ⟨a, cap, rfl, hcap, hcs⟩ := h2
  generalize JN.pageAt l no = v0 at c
  have HC := hideP hcs
  clear hcs h
  go_enter Try.func53, Try.ntmps53
  go_wp2_with fail
  refine c.mono ?_
  rintro _ w ⟨rfl, rfl⟩
  go_wp2_with fail
  go_loop [2, 9, 10] (fun mv sv iv => ∃ (i k : Nat) (s : JN.B), iv = .int .i64 i ∧ mv = .int .u64 k ∧ sv = .string s ∧ i ≤ wt.length ∧ k < 18446744073709551616 ∧ JN.lastP no v0 wt m = JN.lastP no s (wt.drop i) k) (fun _ _ iv => wt.length - (intOf iv).toNat)
  case atStart => exact ⟨0, m, v0, rfl, rfl, rfl, Nat.zero_le _, hm, rfl⟩
  case round =>
    obtain ⟨i, k, s, rfl, rfl, rfl, hi, hk, hall⟩ := hrel
    by_cases hlt : i < wt.length
    · obtain ⟨b, o, rfl, hb, hc⟩ : ∃ b o, a = some ⟨b, o, none⟩ ∧ b < w.heap.size ∧ At cdW w b o wt := by
        rcases HC.out with h | h
        · subst h; simp at hlt
        · exact h
      obtain ⟨c0, c1⟩ := hc.wr i hlt
      have HA : Hid (JN.lastP no v0 wt m = JN.lastP no (if wt[i].no = no ∧ k % 2 = 1 then wt[i].t else s) (wt.drop (i + 1)) (k / 2)) := by
        unfold Hid
        rw [hall, List.drop_eq_getElem_cons hlt, JN.lastP]
      clear hall hc
      generalize wt[i].no = x1 at c0 HA
      generalize wt[i].t = x2 at c1 HA
      have hkd : k / 2 < 18446744073709551616 := by omega
      have hlt' : (i : Int) < (wt.length : Int) := by omega
      have hk0 : (0 : Int) ≤ (k : Int) := by omega
      by_cases hx : x1 = no
      · subst hx
        by_cases hk2 : k % 2 = 1
        · have e2 : (((k : Int) % 2) == 1) = true := by have : (k : Int) % 2 = 1 := by omega
                                                        rw [this]; rfl
          have e3 : (((k : Int).tmod 2) == 1) = true := by rw [Int.tmod_eq_emod_of_nonneg hk0]; exact e2
          go_wp2_with fail
          go_round
          case rel => exact ⟨i + 1, k / 2, x2, by go_num, by go_num, rfl, by omega, hkd, by rw [HA.out, if_pos ⟨rfl, hk2⟩]⟩
          case measure => simp [intOf]; omega
        · have e2 : (((k : Int) % 2) == 1) = false := by have : (k : Int) % 2 = 0 := by omega
                                                         rw [this]; rfl
          have e3 : (((k : Int).tmod 2) == 1) = false := by rw [Int.tmod_eq_emod_of_nonneg hk0]; exact e2
          go_wp2_with fail
          go_round
          case rel => exact ⟨i + 1, k / 2, s, by go_num, by go_num, rfl, by omega, hkd, by rw [HA.out, if_neg (by omega)]⟩
          case measure => simp [intOf]; omega
      · have e1 : (x1 == no) = false := by simpa using hx
        go_wp2_with fail
        go_round
        case rel => exact ⟨i + 1, k / 2, s, by go_num, by go_num, rfl, by omega, hkd, by rw [HA.out, if_neg (fun h => hx h.1)]⟩
        case measure => simp [intOf]; omega
    · have HN : Hid (JN.lastP no v0 wt m = s) := by
        unfold Hid
        rw [hall, List.drop_of_length_le (by omega)]; rfl
      clear hall
      go_wp2_with fail
      go_ret
      exact ⟨ret_ba HN.out.symm, rfl⟩
end Go.Proofs.Ytklldfkaihpkiaa
