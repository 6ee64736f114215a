/-
  What the document's own functions answer that read texts and bytes: quoted, hexOf, hexed.
-/
import Derived.Test.YtjadmefiilkgmaaGreatDoorLtB
namespace Go.Proofs.YtjadmefiilkgmaaGreatDoor
open Go.ChangeShapes Go.WideShapes Go.ChangeAt Go.RowKit
set_option linter.unusedVariables false
set_option linter.unusedSimpArgs false
set_option maxRecDepth 100000

theorem oneL (s : ByteArray) (i : Nat) (h : i < s.size) : (s.extract i (i + 1)).data.toList = [s[i]] := by
  have : (s.extract i (i + 1)).data.toList = (s.data.toList.drop i).take 1 := by simp
  rw [this, List.drop_eq_getElem_cons (by simpa using h)]
  rfl
def two (o : Option VS.Bs) : Value := .tuple #[.string ⟨(o.getD []).toArray⟩, .bool o.isSome]
theorem two_none : two none = .tuple #[.string ⟨#[]⟩, .bool false] := rfl
theorem map_pre (o : Option VS.Bs) (a : VS.Bs) (c : UInt8) : (o.map (c :: ·)).map (a ++ ·) = o.map ((a ++ [c]) ++ ·) := by
  cases o <;> simp
/-- a text between quotes: what stands between them -/
theorem unq_get {S : ByteArray} {t : VS.Bs} (h : S.data.toList = 39 :: (t ++ [39])) : S.size = t.length + 2 ∧ ∀ i (hi : i < t.length) (hj : i + 1 < S.size), S[i + 1] = t[i] := by
  have hz : S.size = t.length + 2 := by rw [← dlen, h]; simp
  refine ⟨hz, fun i hi hj => ?_⟩
  rw [← dget S (i + 1) hj]
  simp only [h, List.getElem_cons_succ]
  exact List.getElem_append_left hi
theorem unq_ends (S : ByteArray) (h2 : 2 ≤ S.size) (h0 : S[0].toNat = 39) (h1 : S[S.size - 1].toNat = 39) : ∃ t, S.data.toList = 39 :: (t ++ [39]) := by
  obtain ⟨l, hl⟩ : ∃ l, S.data.toList = l := ⟨_, rfl⟩
  have hz : l.length = S.size := by rw [← hl, dlen]
  have e0 : l[0]'(by omega) = 39 := by
    have := dget S 0 (by omega)
    simp only [hl] at this
    rw [this]; exact UInt8.toNat_inj.1 h0
  have e1 : l[S.size - 1]'(by omega) = 39 := by
    have := dget S (S.size - 1) (by omega)
    simp only [hl] at this
    rw [this]; exact UInt8.toNat_inj.1 h1
  rw [hl]
  match l, hz, e0, e1 with
  | [], hz, _, _ => simp at hz; omega
  | b :: r, hz, e0, e1 =>
    have hr : r ≠ [] := by rintro rfl; simp at hz; omega
    refine ⟨r.dropLast, ?_⟩
    simp at e0
    rw [e0]
    congr 1
    have e2 : r.getLast hr = 39 := by
      rw [List.getLast_eq_getElem]
      simp only [List.length_cons] at hz
      have e3 : (b :: r)[S.size - 1]'(by simp; omega) = r[r.length - 1]'(by cases r; exact absurd rfl hr; simp) := by
        have : S.size - 1 = (r.length - 1) + 1 := by
          have : 0 < r.length := List.length_pos_iff.2 hr
          omega
        simp only [this, List.getElem_cons_succ]
      rw [← e3]; exact e1
    rw [← e2, List.dropLast_concat_getLast hr]
theorem unq_not (S : ByteArray) (h : S.size < 2 ∨ (2 ≤ S.size ∧ ∃ h0 : 0 < S.size, S[0].toNat ≠ 39) ∨ (2 ≤ S.size ∧ ∃ h1 : S.size - 1 < S.size, S[S.size - 1].toNat ≠ 39)) : VS.quo S.data.toList = none := by
  unfold VS.quo
  cases hu : VS.unq S.data.toList with
  | none => rfl
  | some t =>
    have e := VS.unq_some hu
    obtain ⟨hz, _⟩ := unq_get e
    exfalso
    rcases h with h | ⟨_, h0, h⟩ | ⟨_, h1, h⟩
    · omega
    · apply h
      rw [← dget S 0 h0]
      simp only [e]
      rfl
    · apply h
      rw [← dget S (S.size - 1) h1]
      have : S.size - 1 = t.length + 1 := by omega
      simp only [e, this, List.getElem_cons_succ]
      simp

set_option maxHeartbeats 2000000 in
theorem quotedR_any (S : ByteArray) (w : World) (hs : S.size ≤ 140737488355327) :
    Calls Tryz.prog 49 #[.string S] w fun e w' => e = .returned (two (VS.quo S.data.toList)) ∧ w' = w := by
  obtain ⟨Q, hQ⟩ : ∃ Q, VS.quo S.data.toList = Q := ⟨_, rfl⟩
  rw [hQ]
  by_cases h2 : S.size < 2
  · have HR : Hid (Q = none) := by unfold Hid; rw [← hQ]; exact unq_not S (Or.inl h2)
    have h2' : (S.size : Int) < 2 := by omega
    clear hQ
    go_enter Tryz.func49, Tryz.ntmps49
    go_wp2_with fail
    go_ret2
    exact ⟨by rw [HR.out]; rfl, by first | rfl | trivial⟩
  · have h2' : ¬ (S.size : Int) < 2 := by omega
    have h2n : (2 : Int) ≤ (S.size : Int) := by omega
    have hp : 0 < S.size := by omega
    have hp' : (0 : Int) < (S.size : Int) := by omega
    by_cases h0 : S[0].toNat = 39
    · have h0' : (S[0].toNat : Int) = 39 := by omega
      have h1p : S.size - 1 < S.size := by omega
      have wl : IntKind.i64.wrap ((S.size : Int) - 1) = ((S.size - 1 : Nat) : Int) := by simp only [IntKind.wrap]; simp [IntKind.min, IntKind.max, IntKind.signed, IntKind.bits]; omega
      have wl' : (S.size : Int) - 1 = ((S.size - 1 : Nat) : Int) := by omega
      have wp : (0 : Int) ≤ ((S.size - 1 : Nat) : Int) := by omega
      have wq : ((S.size - 1 : Nat) : Int) < (S.size : Int) := by omega
      by_cases h1 : S[S.size - 1].toNat = 39
      · obtain ⟨t, ht⟩ := unq_ends S (by omega) h0 h1
        obtain ⟨hz, hg⟩ := unq_get ht
        have hQ2 : VS.undbl t = Q := by
          rw [← hQ]
          unfold VS.quo
          rw [ht, VS.unq_mk 39 rfl]
          rfl
        have HZ : Hid _ := hz
        have HG : Hid _ := hg
        have HQ2 : Hid _ := hQ2
        have h1' : (S[S.size - 1].toNat : Int) = 39 := by omega
        clear hQ hQ2 hg hz ht h2
        go_enter Tryz.func49, Tryz.ntmps49
        go_wp2_with fail
        go_loopw [5, 6] (fun ov iv wr => ∃ (k : Nat) (O : ByteArray), iv = .int .i64 k ∧ ov = .string O ∧ 1 ≤ k ∧ k ≤ t.length + 1 ∧ Q = (VS.undbl (t.drop (k - 1))).map (O.data.toList ++ ·) ∧ O.size ≤ k ∧ wr = w) (fun _ iv _ => t.length + 2 - (intOf iv).toNat)
        case atStart => exact ⟨1, ⟨#[]⟩, rfl, rfl, Nat.le_refl _, by omega, by rw [← HQ2.out]; simp, by decide, rfl⟩
        case round =>
          obtain ⟨k, O, rfl, rfl, hk1, hk, hq, hO, rfl⟩ := hrel
          have hz := HZ.out
          by_cases hlt : k < t.length + 1
          · have hltZ : (k : Int) < ((S.size - 1 : Nat) : Int) := by omega
            have hkS : k < S.size := by omega
            have hkZ : (k : Int) < (S.size : Int) := by omega
            have hg := HG.out (k - 1) (by omega) (by omega)
            have hdr : t.drop (k - 1) = t[k - 1] :: t.drop k := by
              rw [List.drop_eq_getElem_cons (by omega), show k - 1 + 1 = k by omega]
            rw [← hg] at hdr
            have hSk : S[k - 1 + 1]'(by omega) = S[k] := by congr 1; omega
            rw [hSk] at hdr
            clear hg hSk
            have hes : ∀ m : Nat, m < S.size → (S.extract m (m + 1)).size = 1 := fun m hm => by rw [ByteArray.size_extract]; omega
            by_cases h39 : S[k].toNat = 39
            · have z39 : (S[k].toNat : Int) = 39 := by omega
              have e39 : S[k] = 39 := UInt8.toNat_inj.1 h39
              rw [hdr, e39] at hq
              by_cases hend : k + 1 < t.length + 1
              · have hendZ : ¬ ((S.size - 1 : Nat) : Int) ≤ (k : Int) + 1 := by omega
                have hendY : (k : Int) + 1 < ((S.size - 1 : Nat) : Int) := by omega
                have hk1S : k + 1 < S.size := by omega
                have hk1Z : (k : Int) + 1 < (S.size : Int) := by omega
                have hp1 : (0 : Int) ≤ (k : Int) + 1 := by omega
                have hg := HG.out k (by omega) (by omega)
                have hdr2 : t.drop k = t[k] :: t.drop (k + 1) := List.drop_eq_getElem_cons (by omega)
                rw [← hg] at hdr2
                rw [hdr2] at hq
                by_cases h2 : S[k + 1].toNat = 39
                · have y39 : (S[k + 1].toNat : Int) = 39 := by omega
                  have f39 : S[k + 1] = 39 := UInt8.toNat_inj.1 h2
                  rw [f39, VS.undbl_q, map_pre] at hq
                  have hol := oneL S (k + 1) hk1S
                  have he1 := hes (k + 1) hk1S
                  have HX : Hid (Q = (VS.undbl (t.drop (k + 2 - 1))).map ((O ++ S.extract (k + 1) (k + 1 + 1)).data.toList ++ ·)) := by
                    unfold Hid
                    rw [dataApp, hol, f39, show k + 2 - 1 = k + 1 by omega]
                    exact hq
                  have HS : Hid ((O ++ S.extract (k + 1) (k + 1 + 1)).size ≤ k + 2) := by unfold Hid; rw [ByteArray.size_append, he1]; omega
                  have hsz : O.size + (S.extract (k + 1) (k + 1 + 1)).size ≤ 9223372036854775807 := by rw [he1]; omega
                  have hk2 : (k : Int) + 1 + 1 ≤ (S.size : Int) := by omega
                  clear hq hdr hdr2 hg hol he1 hes HZ HG HQ2 hz
                  go_wp2_with fail
                  go_roundw
                  case rel => exact ⟨k + 2, _, by go_num, rfl, by omega, by omega, HX.out, HS.out, by first | rfl | trivial⟩
                  case measure => simp [intOf]; omega
                · have y39 : ((S[k + 1].toNat : Int) != 39) = true := by simp; omega
                  have n39 : ¬ (S[k + 1].toNat : Int) = 39 := by omega
                  have HX : Hid (Q = none) := by
                    unfold Hid
                    rw [hq]
                    conv => lhs; arg 2; unfold VS.undbl
                    rw [if_pos (by rfl), if_neg h2]
                    rfl
                  clear hq hdr hdr2 hg hes HZ HG HQ2 hz
                  go_wp2_with fail
                  go_ret2
                  exact ⟨by rw [HX.out]; rfl, by first | rfl | trivial⟩
              · have hendZ : ((S.size - 1 : Nat) : Int) ≤ (k : Int) + 1 := by omega
                have hdr2 : t.drop k = [] := List.drop_of_length_le (by omega)
                have HX : Hid (Q = none) := by
                  unfold Hid
                  rw [hq, hdr2]
                  rfl
                clear hq hdr hdr2 hes HZ HG HQ2 hz
                go_wp2_with fail
                go_ret2
                exact ⟨by rw [HX.out]; rfl, by first | rfl | trivial⟩
            · have z39 : ((S[k].toNat : Int) == 39) = false := by rw [beq_eq_false_iff_ne]; omega
              have n39 : ¬ (S[k].toNat : Int) = 39 := by omega
              rw [hdr, VS.undbl_n _ h39, map_pre] at hq
              have hol := oneL S k hkS
              have he1 := hes k hkS
              have HX : Hid (Q = (VS.undbl (t.drop (k + 1 - 1))).map ((O ++ S.extract k (k + 1)).data.toList ++ ·)) := by
                unfold Hid
                rw [dataApp, hol, show k + 1 - 1 = k by omega]
                exact hq
              have HS : Hid ((O ++ S.extract k (k + 1)).size ≤ k + 1) := by unfold Hid; rw [ByteArray.size_append, he1]; omega
              have hsz : O.size + (S.extract k (k + 1)).size ≤ 9223372036854775807 := by rw [he1]; omega
              have hk2 : (k : Int) + 1 ≤ (S.size : Int) := by omega
              clear hq hdr hol he1 hes HZ HG HQ2 hz
              go_wp2_with fail
              go_roundw
              case rel => exact ⟨k + 1, _, by go_num, rfl, by omega, by omega, HX.out, HS.out, by first | rfl | trivial⟩
              case measure => simp [intOf]; omega
          · have hltZ : ¬ (k : Int) < ((S.size - 1 : Nat) : Int) := by omega
            have hltY : ((S.size - 1 : Nat) : Int) ≤ (k : Int) := by omega
            have hdr : t.drop (k - 1) = [] := List.drop_of_length_le (by omega)
            have HX : Hid (Q = some O.data.toList) := by
              unfold Hid
              rw [hq, hdr]
              simp [VS.undbl]
            clear hq hdr HZ HG HQ2 hz
            go_wp2_with fail
            go_ret2
            exact ⟨by rw [HX.out]; unfold two; rw [show (⟨(((some O.data.toList : Option VS.Bs).getD [])).toArray⟩ : ByteArray) = O from dl_eq O]; rfl, by first | rfl | trivial⟩
      · have HR : Hid (Q = none) := by unfold Hid; rw [← hQ]; exact unq_not S (Or.inr (Or.inr ⟨by omega, h1p, h1⟩))
        have h1b : ((S[S.size - 1].toNat : Int) != 39) = true := by simp; omega
        have h1' : ¬ (S[S.size - 1].toNat : Int) = 39 := by omega
        clear hQ
        go_enter Tryz.func49, Tryz.ntmps49
        go_wp2_with fail
        go_ret2
        exact ⟨by rw [HR.out]; rfl, by first | rfl | trivial⟩
    · have HR : Hid (Q = none) := by unfold Hid; rw [← hQ]; exact unq_not S (Or.inr (Or.inl ⟨by omega, hp, h0⟩))
      have h0b : ((S[0].toNat : Int) != 39) = true := by simp; omega
      have h0' : ¬ (S[0].toNat : Int) = 39 := by omega
      clear hQ
      go_enter Tryz.func49, Tryz.ntmps49
      go_wp2_with fail
      go_ret2
      exact ⟨by rw [HR.out]; rfl, by first | rfl | trivial⟩

theorem hexOf_any (b : UInt8) (w : World) :
    Calls Tryz.prog 72 #[.int .u8 (b.toNat : Int)] w fun e w' => e = .returned (.int .i64 (VS.ix b)) ∧ Fr w w' := by
  have hb : b.toNat < 256 := b.toNat_lt
  by_cases h1 : 48 ≤ b.toNat ∧ b.toNat ≤ 57
  · have HE : Hid (VS.ix b = (b.toNat : Int) - 48) := by
      unfold Hid VS.ix VS.hxv
      rw [if_pos h1]
      simp only
      omega
    have q1 : (48 : Int) ≤ (b.toNat : Int) := by omega
    have q2 : (b.toNat : Int) ≤ 57 := by omega
    have w1 : IntKind.i64.wrap ((b.toNat : Int) - 48) = (b.toNat : Int) - 48 := by simp only [IntKind.wrap]; simp [IntKind.min, IntKind.max, IntKind.signed, IntKind.bits]; omega
    clear h1
    go_enter Tryz.func72, Tryz.ntmps72
    go_wp2_with fail
    go_ret
    exact ⟨ret_int (by rw [HE.out]), Fr.refl _⟩
  · have q : (b.toNat < 48 ∨ (48 ≤ b.toNat ∧ 57 < b.toNat ∧ (b.toNat < 97 ∨ (97 ≤ b.toNat ∧ 102 < b.toNat) ∨ (97 ≤ b.toNat ∧ b.toNat ≤ 102)))) := by omega
    have HE : Hid (VS.ix b = if 97 ≤ b.toNat ∧ b.toNat ≤ 102 then (b.toNat : Int) - 87 else -1) := by
      unfold Hid VS.ix VS.hxv
      rw [if_neg h1]
      by_cases h2 : 97 ≤ b.toNat ∧ b.toNat ≤ 102
      · rw [if_pos h2, if_pos h2]
        simp only
        omega
      · rw [if_neg h2, if_neg h2]
    generalize VS.ix b = X at *
    clear h1
    rcases q with q | ⟨q0, q1, q | ⟨q2, q3⟩ | ⟨q2, q3⟩⟩
    · have HX : Hid (X = -1) := by unfold Hid; rw [HE.out, if_neg (by omega)]
      have a1 : (b.toNat : Int) < 48 := by omega
      have a2 : (b.toNat : Int) < 97 := by omega
      clear HE
      go_enter Tryz.func72, Tryz.ntmps72
      go_wp2_with fail
      go_ret
      exact ⟨ret_int HX.out.symm, Fr.refl _⟩
    · have HX : Hid (X = -1) := by unfold Hid; rw [HE.out, if_neg (by omega)]
      have a1 : (48 : Int) ≤ (b.toNat : Int) := by omega
      have a3 : (57 : Int) < (b.toNat : Int) := by omega
      have a2 : (b.toNat : Int) < 97 := by omega
      clear HE
      go_enter Tryz.func72, Tryz.ntmps72
      go_wp2_with fail
      go_ret
      exact ⟨ret_int HX.out.symm, Fr.refl _⟩
    · have HX : Hid (X = -1) := by unfold Hid; rw [HE.out, if_neg (by omega)]
      have a1 : (48 : Int) ≤ (b.toNat : Int) := by omega
      have a3 : (57 : Int) < (b.toNat : Int) := by omega
      have a2 : (97 : Int) ≤ (b.toNat : Int) := by omega
      have a4 : (102 : Int) < (b.toNat : Int) := by omega
      clear HE
      go_enter Tryz.func72, Tryz.ntmps72
      go_wp2_with fail
      go_ret
      exact ⟨ret_int HX.out.symm, Fr.refl _⟩
    · have HX : Hid (X = (b.toNat : Int) - 87) := by unfold Hid; rw [HE.out, if_pos ⟨q2, q3⟩]
      have a1 : (48 : Int) ≤ (b.toNat : Int) := by omega
      have a3 : (57 : Int) < (b.toNat : Int) := by omega
      have a2 : (97 : Int) ≤ (b.toNat : Int) := by omega
      have a4 : (b.toNat : Int) ≤ 102 := by omega
      have w1 : IntKind.i64.wrap ((b.toNat : Int) - 87) = (b.toNat : Int) - 87 := by simp only [IntKind.wrap]; simp [IntKind.min, IntKind.max, IntKind.signed, IntKind.bits]; omega
      clear HE
      go_enter Tryz.func72, Tryz.ntmps72
      go_wp2_with fail
      go_ret
      exact ⟨ret_int HX.out.symm, Fr.refl _⟩
end Go.Proofs.YtjadmefiilkgmaaGreatDoor
