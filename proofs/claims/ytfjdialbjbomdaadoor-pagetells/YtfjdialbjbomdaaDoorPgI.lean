/-
  Open, whatever it is handed; noughts.
-/
import Derived.Test.YtfjdialbjbomdaaDoorPgH
namespace Go.Proofs.YtfjdialbjbomdaaDoor
open Go.ChangeShapes Go.WideShapes Go.ChangeAt Go.RowKit
set_option linter.unusedVariables false
set_option linter.unusedSimpArgs false

theorem nz_noughts (l : List UInt8) : ¬ Nz l ↔ l = PG.noughts l.length := by
  unfold Nz PG.noughts
  constructor
  · intro h
    refine List.eq_replicate_iff.2 ⟨rfl, fun b hb => ?_⟩
    by_cases h0 : b = 0
    · exact h0
    · exact absurd ⟨b, hb, h0⟩ h
  · intro h
    rintro ⟨b, hb, h0⟩
    rw [h] at hb
    exact h0 (List.eq_of_mem_replicate hb)
theorem num_lt (l : List UInt8) (k : Nat) : PG.num l k < 65536 := by
  unfold PG.num
  have h1 := (l.getD k 0).toNat_lt
  have h2 := (l.getD (k + 1) 0).toNat_lt
  omega
theorem open_any (no : Int) (s : ByteArray) (w : World) : Calls Tryd.prog 10 #[.int .i64 no, .string s] w fun e w' => e = .returned (opV (PG.opn no s.data.toList)) ∧ Fr w w' := by
  by_cases h1 : no < 0 ∨ 31 < no
  · have := open_place no s w h1
    have e : PG.opn no s.data.toList = (PG.zero, 3) := if_pos h1
    rw [e]
    exact this
  by_cases h2 : s.size ≠ 256
  · have := open_size no s w (by omega) (by omega) h2
    have e : PG.opn no s.data.toList = (PG.zero, 1) := PG.short (by omega) (by omega) (by rw [dl_len]; exact h2)
    rw [e]
    exact this
  have h2' : s.size = 256 := by omega
  have hl : s.data.toList.length = 256 := by rw [dl_len]; exact h2'
  have hopn : PG.opn no s.data.toList = if s.data.toList.drop 252 ≠ PG.four (SM.more 0 (s.data.toList.take 252)) ∨ (PG.num s.data.toList 0 : Int) ≠ no then (PG.zero, 11)
      else if PG.chk (PG.told no s.data.toList) ≠ 0 then (PG.zero, PG.chk (PG.told no s.data.toList))
      else if (s.data.toList.take 252).drop (PG.endOf s.data.toList) = PG.noughts (252 - PG.endOf s.data.toList) then (PG.told no s.data.toList, 0)
      else (PG.zero, 1) := by
    unfold PG.opn
    rw [if_neg h1, if_neg (by omega)]
  have hd : (s.extract 252 256).data.toList = s.data.toList.drop 252 := by
    rw [ext_list, List.take_of_length_le (by omega)]
  have hB : s.extract 7 (PG.endOf s.data.toList) = ⟨(PG.told no s.data.toList).body.toArray⟩ := by
    rw [← dl_eq (s.extract 7 (PG.endOf s.data.toList)), ext_list]
    rfl
  have hM : ∀ m : List UInt8, s.extract 252 256 = ⟨m.toArray⟩ ↔ s.data.toList.drop 252 = m := by
    intro m
    constructor
    · intro h; rw [← hd, h]
    · intro h; rw [← dl_eq (s.extract 252 256), hd, h]
  have hend : PG.endOf s.data.toList = min (7 + PG.num s.data.toList 5) 256 := rfl
  have htail : (s.extract (PG.endOf s.data.toList) 252).data.toList = (s.data.toList.take 252).drop (PG.endOf s.data.toList) := ext_list _ _ _
  have htl : PG.endOf s.data.toList ≤ 252 → ((s.data.toList.take 252).drop (PG.endOf s.data.toList)).length = 252 - PG.endOf s.data.toList := fun h => by
    rw [List.length_drop, List.length_take]; omega
  have hbl : (PG.told no s.data.toList).body.length = PG.endOf s.data.toList - 7 := by
    show ((s.data.toList.take (PG.endOf s.data.toList)).drop 7).length = _
    rw [List.length_drop, List.length_take]
    omega
  have hce : PG.chk (PG.told no s.data.toList) = 0 → PG.endOf s.data.toList ≤ 252 := fun h => by
    have := (PG.chk_ok h).2.2.2
    omega
  refine open_core no s ⟨(PG.four (SM.more 0 (s.data.toList.take 252))).toArray⟩ ⟨(PG.told no s.data.toList).body.toArray⟩ _ _ _ _ (PG.num s.data.toList 0) (s.data.toList.getD 2 0).toNat (PG.num s.data.toList 3) (PG.num s.data.toList 5) (PG.endOf s.data.toList) (PG.chk (PG.told no s.data.toList)) w (by omega) (by omega) h2' rfl rfl rfl
    (fun h => by rw [List.getD_eq_getElem?_getD, List.getElem?_eq_getElem h]; rfl) rfl rfl hend hB (s.data.toList.getD 2 0).toNat_lt (num_lt _ _) (num_lt _ _) (num_lt _ _)
    (fun W => check_any (PG.told no s.data.toList) W) hce _ ?_ ?_ ?_ ?_ ?_
  · intro h
    rw [hopn, if_pos (Or.inl (fun c => h ((hM _).2 c)))]
    rfl
  · intro h k
    rw [hopn, if_pos (Or.inr k)]
    rfl
  · intro h k c
    rw [hopn, if_neg (by rintro (q | q); exact q ((hM _).1 h); exact q k), if_pos c]
    rfl
  · intro h k c nz
    rw [hopn, if_neg (by rintro (q | q); exact q ((hM _).1 h); exact q k), if_neg (by rw [c]; decide), if_neg (fun q => by
      rw [htail] at nz
      refine (nz_noughts _).2 ?_ nz
      rw [htl (hce c)]
      exact q)]
    rfl
  · intro h k c nz
    rw [hopn, if_neg (by rintro (q | q); exact q ((hM _).1 h); exact q k), if_neg (by rw [c]; decide), if_pos (by
      rw [htail] at nz
      have := (nz_noughts _).1 nz
      rw [htl (hce c)] at this
      exact this)]
    rfl
theorem seal_any (p : PG.Pg) (w : World) : Calls Tryd.prog 9 #[pgV p] w fun e w' => e = .returned (slV p) ∧ Fr w w' := by
  unfold slV PG.sealE
  by_cases h : PG.chk p = 0
  · rw [if_pos h]
    exact seal_ok p w h
  · rw [if_neg h]
    exact seal_bad p w h

theorem one_conv (w : World) (n : Nat) (h : n < 256) :
    (convert 44 9 (.slice (some ⟨w.heap.size, 0, none⟩) 1 1)).run Tryd.prog (w.alloc (.cells #[.int .u8 (n : Int)] 5)) = .ok (.string ⟨[UInt8.ofNat n].toArray⟩) (w.alloc (.cells #[.int .u8 (n : Int)] 5)) := by
  refine run_convert_bytes_back (P := Tryd.prog) _ 44 9 5 ⟨w.heap.size, 0, none⟩ 1 [UInt8.ofNat n] Tryd.underlying44 Tryd.underlying5 Tryd.underlying9 ?_
  intro j hj
  have : j = 0 := by simpa using hj
  subst this
  have hc := cell_one_new w (.int .u8 (n : Int)) 5 0 _ rfl
  rw [hc]
  simp only [List.getElem_cons_zero, UInt8.toNat_ofNat']
  congr 3
  omega
set_option maxHeartbeats 400000 in
theorem oneByte_any (n : Nat) (w : World) (h : n < 256) :
    Calls Tryd.prog 24 #[.int .i64 (n : Int)] w fun e w' => e = .returned (.string ⟨[UInt8.ofNat n].toArray⟩) ∧ Fr w w' := by
  have hc := one_conv w n h
  have h' : (n : Int) < 256 := by omega
  go_enter Tryd.func24, Tryd.ntmps24
  go_wp2
  go_ret
  exact ⟨rfl, (Fr.refl _).alloc _⟩
theorem nought_snoc (k : Nat) : (⟨(PG.noughts k).toArray⟩ : ByteArray) ++ ⟨[UInt8.ofNat 0].toArray⟩ = ⟨(PG.noughts (k + 1)).toArray⟩ := by
  apply ByteArray.ext
  apply Array.toList_inj.1
  rw [ByteArray.data_append, Array.toList_append]
  show PG.noughts k ++ [0] = PG.noughts (k + 1)
  unfold PG.noughts
  rw [List.replicate_succ']
theorem noughts_len (k : Nat) : (PG.noughts k).length = k := by unfold PG.noughts; rw [List.length_replicate]

set_option maxRecDepth 100000 in
set_option maxHeartbeats 1000000 in
theorem noughts_any (n : Nat) (w : World) (hn : n ≤ 1000) : Calls Tryd.prog 17 #[.int .i64 (n : Int)] w fun e w' => e = .returned (.string ⟨(PG.noughts n).toArray⟩) ∧ Fr w w' := by
  have c0 := fun W => oneByte_any 0 W (by decide)
  go_enter Tryd.func17, Tryd.ntmps17
  go_wp2_with fail
  go_loopw [3] (fun v wr => ∃ k : Nat, v = .string ⟨(PG.noughts k).toArray⟩ ∧ k ≤ n ∧ Fr w wr) (fun v _ => match v with | .string T => n - T.size | _ => 0)
  case atStart => exact ⟨0, rfl, Nat.zero_le _, Fr.refl _⟩
  case round =>
    obtain ⟨k, rfl, hk, hfr⟩ := hrel
    have hsz : (⟨(PG.noughts k).toArray⟩ : ByteArray).size = k := by rw [mk_size, noughts_len]
    have HS : Hid _ := nought_snoc k
    have HZ : Hid ((⟨(PG.noughts (k + 1)).toArray⟩ : ByteArray).size = k + 1) := by unfold Hid; rw [mk_size, noughts_len]
    have HZ0 : Hid _ := hsz
    obtain ⟨T, hT⟩ : ∃ T : ByteArray, (⟨(PG.noughts k).toArray⟩ : ByteArray) = T := ⟨_, rfl⟩
    rw [hT] at hsz HS HZ0 ⊢
    have HT : Hid _ := hT
    clear hT
    have hkZ : (T.size : Int) = (k : Int) := by omega
    by_cases hlt : k < n
    · have hl : (k : Int) < (n : Int) := by omega
      clear hsz
      go_wp2_with fail
      refine (c0 _).mono ?_
      rintro _ w1 ⟨rfl, f1⟩
      have hs1 : (⟨[UInt8.ofNat 0].toArray⟩ : ByteArray).size = 1 := rfl
      have h9 : T.size + 1 ≤ 9223372036854775807 := by have := HZ0.out; omega
      go_wp2_with fail
      go_roundw
      case rel => exact ⟨k + 1, by rw [← HS.out]; rfl, by omega, hfr.trans f1⟩
      case measure =>
        have h1 := HS.out
        have h2 := HZ.out
        have h3 := HZ0.out
        rw [← h1] at h2
        simp only [h3]
        show n - (T ++ (⟨[UInt8.ofNat 0].toArray⟩ : ByteArray)).size < _
        rw [h2]
        omega
    · obtain rfl : k = n := by omega
      have hl : ¬ (k : Int) < (k : Int) := by omega
      go_wp2_with fail
      go_ret
      exact ⟨by rw [HT.out]; rfl, hfr⟩
end Go.Proofs.YtfjdialbjbomdaaDoor
