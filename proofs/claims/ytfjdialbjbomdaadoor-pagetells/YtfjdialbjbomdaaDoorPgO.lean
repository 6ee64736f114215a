/-
  The document's own PageOf, whatever it is handed.
-/
import Derived.Test.YtfjdialbjbomdaaDoorPgN
namespace Go.Proofs.YtfjdialbjbomdaaDoor
open Go.ChangeShapes Go.WideShapes Go.ChangeAt Go.RowKit
set_option linter.unusedVariables false
set_option linter.unusedSimpArgs false

theorem num_at (s : ByteArray) (k : Nat) (h : k + 1 < s.size) : PG.num s.data.toList k = s[k].toNat * 256 + s[k + 1].toNat := by
  unfold PG.num
  rw [List.getD_eq_getElem?_getD, get_mem s k (by omega), List.getD_eq_getElem?_getD, get_mem s (k + 1) h]
  rfl
theorem chk_told (no x2 x3 : Int) (b : List UInt8) : PG.chk ⟨no, x2, x3, b⟩ = if PG.chk ⟨no, x2, x3, []⟩ ≠ 0 then PG.chk ⟨no, x2, x3, []⟩ else if 245 < b.length then 2 else 0 := by
  unfold PG.chk
  simp only [List.length_nil]
  split
  · rfl
  · split
    · rfl
    · split
      · rfl
      · rfl
theorem pageOf_any (no : Int) (s : ByteArray) (w : World) : Calls Tryd.prog 13 #[.int .i64 no, .string s] w fun e w' => e = .returned (opV (PG.opn no s.data.toList)) ∧ Fr w w' := by
  by_cases h1 : no < 0 ∨ 31 < no
  · have := pageOf_place no s w h1
    have e : PG.opn no s.data.toList = (PG.zero, 3) := if_pos h1
    rw [e]
    exact this
  by_cases h2 : s.size ≠ 256
  · have := pageOf_size no s w (by omega) (by omega) h2
    have e : PG.opn no s.data.toList = (PG.zero, 1) := PG.short (by omega) (by omega) (by rw [dl_len]; exact h2)
    rw [e]
    exact this
  have h2' : s.size = 256 := by omega
  have hl : s.data.toList.length = 256 := by rw [dl_len]; exact h2'
  have hopn : PG.opn no s.data.toList = if s.data.toList.drop 252 ≠ PG.four (SM.more 0 (s.data.toList.take 252)) ∨ (PG.num s.data.toList 0 : Int) ≠ no then (PG.zero, 11)
      else if PG.chk (PG.told no s.data.toList) ≠ 0 then (PG.zero, PG.chk (PG.told no s.data.toList))
      else if (s.data.toList.take 252).drop (PG.endOf s.data.toList) = PG.noughts (252 - PG.endOf s.data.toList) then (PG.told no s.data.toList, 0)
      else (PG.zero, 1) := by
    unfold PG.opn
    rw [if_neg h1, if_neg (by omega)]
  have n0 : PG.num s.data.toList 0 = s[0].toNat * 256 + s[1].toNat := num_at s 0 (by omega)
  have n3 : PG.num s.data.toList 3 = s[3].toNat * 256 + s[4].toNat := num_at s 3 (by omega)
  have n5 : PG.num s.data.toList 5 = s[5].toNat * 256 + s[6].toNat := num_at s 5 (by omega)
  have l0 := s[0].toNat_lt
  have l1 := s[1].toNat_lt
  have l2 := s[2].toNat_lt
  have l3 := s[3].toNat_lt
  have l4 := s[4].toNat_lt
  have l5 := s[5].toNat_lt
  have l6 := s[6].toNat_lt
  have hd : (s.extract 252 256).data.toList = s.data.toList.drop 252 := by
    rw [ext_list, List.take_of_length_le (by omega)]
  have hM : ∀ m : List UInt8, (⟨m.toArray⟩ : ByteArray) = s.extract 252 256 ↔ s.data.toList.drop 252 = m := by
    intro m
    constructor
    · intro h; rw [← hd, ← h]
    · intro h; rw [← dl_eq (s.extract 252 256), hd, h]
  have hg2 : (s.data.toList.getD 2 0) = s[2] := by rw [List.getD_eq_getElem?_getD, get_mem s 2 (by omega)]; rfl
  have hT : s.extract 0 2 = ⟨(PG.two no.toNat).toArray⟩ ↔ (PG.num s.data.toList 0 : Int) = no := by
    have e2 : (s.extract 0 2).data.toList = [s[0], s[1]] := by
      rw [ext_list, List.drop_zero]
      have := PG.list7 hl
      rw [this]
      rw [List.getD_eq_getElem?_getD, get_mem s 0 (by omega), List.getD_eq_getElem?_getD, get_mem s 1 (by omega)]
      rfl
    constructor
    · intro h
      rw [h, dl_mk] at e2
      unfold PG.two at e2
      simp only [List.cons.injEq, and_true] at e2
      rw [n0, ← e2.1, ← e2.2, UInt8.toNat_ofNat', UInt8.toNat_ofNat']
      omega
    · intro h
      rw [← dl_eq (s.extract 0 2), e2]
      unfold PG.two
      have ha : UInt8.ofNat (no.toNat / 256) = s[0] := by
        apply UInt8.toNat_inj.1
        rw [UInt8.toNat_ofNat']
        omega
      have hb : UInt8.ofNat no.toNat = s[1] := by
        apply UInt8.toNat_inj.1
        rw [UInt8.toNat_ofNat']
        omega
      rw [ha, hb]
  have hck : PG.chk (PG.told no s.data.toList) = if PG.chk ⟨no, (s[2].toNat : Int), ((s[3].toNat * 256 + s[4].toNat : Nat) : Int), []⟩ ≠ 0 then PG.chk ⟨no, (s[2].toNat : Int), ((s[3].toNat * 256 + s[4].toNat : Nat) : Int), []⟩ else if 245 < (PG.told no s.data.toList).body.length then 2 else 0 := by
    have := chk_told no (s[2].toNat : Int) ((s[3].toNat * 256 + s[4].toNat : Nat) : Int) (PG.told no s.data.toList).body
    rw [← this]
    unfold PG.told
    rw [hg2, n3]
  have hend : PG.endOf s.data.toList = min (7 + (s[5].toNat * 256 + s[6].toNat)) 256 := by unfold PG.endOf; rw [n5]
  have hbl : (PG.told no s.data.toList).body.length = PG.endOf s.data.toList - 7 := by
    show ((s.data.toList.take (PG.endOf s.data.toList)).drop 7).length = _
    rw [List.length_drop, List.length_take]
    omega
  have hN : ∀ e n : Nat, PG.endOf s.data.toList = e → e ≤ 252 → 252 - e = n → (s.extract e 252 = ⟨(PG.noughts n).toArray⟩ ↔ (s.data.toList.take 252).drop (PG.endOf s.data.toList) = PG.noughts (252 - PG.endOf s.data.toList)) := by
    intro e n he1 he2 he3
    rw [he1, he3, ← ext_list]
    constructor
    · intro h; rw [h]
    · intro h; rw [← dl_eq (s.extract e 252), h]
  refine pageOf_core no s ⟨(PG.four (SM.more 0 (s.data.toList.take 252))).toArray⟩ ⟨(PG.two no.toNat).toArray⟩ (s.extract 7 (7 + (s[5].toNat * 256 + s[6].toNat))) ⟨(PG.noughts (245 - (s[5].toNat * 256 + s[6].toNat))).toArray⟩ s[2].toNat s[3].toNat s[4].toNat s[5].toNat s[6].toNat (s[3].toNat * 256 + s[4].toNat) (s[5].toNat * 256 + s[6].toNat) (7 + (s[5].toNat * 256 + s[6].toNat)) (245 - (s[5].toNat * 256 + s[6].toNat)) (PG.chk ⟨no, (s[2].toNat : Int), ((s[3].toNat * 256 + s[4].toNat : Nat) : Int), []⟩) w (by omega) (by omega) h2'
    (fun _ => rfl) (fun _ => rfl) (fun _ => rfl) (fun _ => rfl) (fun _ => rfl) l2 l3 l4 l5 l6 rfl rfl rfl (fun W => ?_) (fun W => ?_) (fun W => ?_) (fun _ => rfl) (fun W => noughts_any _ W (by omega)) rfl _ ?_ ?_ ?_ ?_ ?_ ?_
  · have := sumBytes_any (s.extract 0 252) W (by rw [ByteArray.size_extract]; omega)
    rw [ext_list, List.drop_zero] at this
    exact this
  · obtain ⟨k, rfl⟩ := Int.eq_ofNat_of_zero_le (show 0 ≤ no by omega)
    rw [Int.toNat_natCast]
    exact twoBytes_any k W (by omega)
  · exact rcheck_any ⟨no, (s[2].toNat : Int), ((s[3].toNat * 256 + s[4].toNat : Nat) : Int), []⟩ W
  · intro h
    rw [hopn, if_pos (Or.inl (fun c => h ((hM _).2 c)))]
    rfl
  · intro h k
    rw [hopn, if_pos (Or.inr (fun c => k (hT.2 c)))]
    rfl
  · intro h k c
    have hc : PG.chk (PG.told no s.data.toList) = PG.chk ⟨no, (s[2].toNat : Int), ((s[3].toNat * 256 + s[4].toNat : Nat) : Int), []⟩ := by rw [hck, if_pos c]
    rw [hopn, if_neg (by rintro (q | q); exact q ((hM _).1 h); exact q (hT.1 k)), hc, if_pos c]
    rfl
  · intro h k c g
    have hc : PG.chk (PG.told no s.data.toList) = 2 := by rw [hck, if_neg (by rw [c]; decide), if_pos (by rw [hbl, hend]; omega)]
    rw [hopn, if_neg (by rintro (q | q); exact q ((hM _).1 h); exact q (hT.1 k)), hc, if_pos (by decide)]
    rfl
  · intro h k c g ne
    have hc : PG.chk (PG.told no s.data.toList) = 0 := by rw [hck, if_neg (by rw [c]; decide), if_neg (by rw [hbl, hend]; omega)]
    rw [hopn, if_neg (by rintro (q | q); exact q ((hM _).1 h); exact q (hT.1 k)), hc, if_neg (by decide), if_neg (fun q => ne ((hN _ _ (by rw [hend]; omega) (by omega) (by omega)).2 q))]
    rfl
  · intro h k c g eq
    have hc : PG.chk (PG.told no s.data.toList) = 0 := by rw [hck, if_neg (by rw [c]; decide), if_neg (by rw [hbl, hend]; omega)]
    rw [hopn, if_neg (by rintro (q | q); exact q ((hM _).1 h); exact q (hT.1 k)), hc, if_neg (by decide), if_pos ((hN _ _ (by rw [hend]; omega) (by omega) (by omega)).1 eq)]
    unfold opV pgV PG.told
    simp only
    rw [hg2, n3]
    have e1 : PG.endOf s.data.toList = 7 + (s[5].toNat * 256 + s[6].toNat) := by rw [hend]; omega
    rw [e1, ← ext_list, dl_eq]
    rfl
end Go.Proofs.YtfjdialbjbomdaaDoor
