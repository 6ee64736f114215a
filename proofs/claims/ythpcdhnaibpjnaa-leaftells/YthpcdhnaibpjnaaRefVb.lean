/-
  What the document's own valueBytes answers: the value with which a text begins.
-/
import Derived.Test.YthpcdhnaibpjnaaRefRow
namespace Go.Proofs.Ythpcdhnaibpjnaa
open Go.ChangeShapes Go.WideShapes Go.ChangeAt Go.RowKit
set_option linter.unusedVariables false
set_option linter.unusedSimpArgs false
set_option maxRecDepth 100000

def vbv (s : ByteArray) : Value :=
  match RM.vl s.data.toList with
  | .error e => .tuple #[.agg #[.int .i64 0, .int .i64 0, .string ⟨#[]⟩], .int .i64 0, .int .i64 (e : Nat)]
  | .ok (x, t) => .tuple #[x.val, .int .i64 ((s.size - t.length : Nat) : Int), .int .i64 0]

theorem vbv_err {s : ByteArray} {e : Nat} (h : RM.vl s.data.toList = .error e) : vbv s = .tuple #[.agg #[.int .i64 0, .int .i64 0, .string ⟨#[]⟩], .int .i64 0, .int .i64 (e : Nat)] := by
  unfold vbv; rw [h]
theorem vbv_ok {s : ByteArray} {x : VM.Vl} {t : List UInt8} (h : RM.vl s.data.toList = .ok (x, t)) : vbv s = .tuple #[x.val, .int .i64 ((s.size - t.length : Nat) : Int), .int .i64 0] := by
  unfold vbv; rw [h]
theorem head_cons (s : ByteArray) (h : 0 < s.size) : s.data.toList = s[0] :: s.data.toList.drop 1 := by
  have := List.drop_eq_getElem_cons (l := s.data.toList) (i := 0) (by simpa using h)
  rw [List.drop_zero] at this
  exact this
theorem tail_list (s : ByteArray) : (s.extract 1 s.size).data.toList = s.data.toList.drop 1 := by
  have : (s.extract 1 s.size).data.toList = (s.data.toList.drop 1).take (s.size - 1) := by simp
  rw [this, List.take_of_length_le]
  rw [List.length_drop, Array.length_toList]
  exact Nat.le_refl _
theorem rd_ten (l : List UInt8) (h : (NM.rd l 0 0).2.2 = 0) : (NM.rd l 0 0).2.1 ≤ 10 := by
  obtain ⟨m, h1, h2, h3, h4, _⟩ := NM.rd_only l 0 0 h
  have hlt := NM.rd_lt l
  have hm : m < 18446744073709551616 := by simp at h1; omega
  have := NM.enc_ten hm
  rw [h4, List.length_take] at this
  omega
theorem ret_three {a b : Value} {c d e f : Int} (h : a = b) (k : c = d) (g : e = f) : Ending.returned (.tuple #[a, .int .i64 c, .int .i64 e]) = .returned (.tuple #[b, .int .i64 d, .int .i64 f]) := by rw [h, k, g]

set_option maxHeartbeats 1000000 in
theorem valueBytes_any (s : ByteArray) (w : World) (hs : s.size ≤ maxLen) :
    Calls Try.prog 49 #[.string s] w fun e w' => e = .returned (vbv s) ∧ Fr w w' := by
  by_cases h0 : s.size = 0
  · have hnil : s.data.toList = [] := List.length_eq_zero_iff.1 (by rw [Array.length_toList]; exact h0)
    have HV : Hid (vbv s = _) := vbv_err (e := 5) (by rw [hnil]; rfl)
    have h0' : (s.size : Int) = 0 := by omega
    clear hnil
    go_enter Try.func49, Try.ntmps49
    go_wp2_with fail
    refine bodyPost_ret (v := .tuple #[.agg #[.int .i64 0, .int .i64 0, .string ⟨#[]⟩], .int .i64 0, .int .i64 5]) (by simp [results, Try.results49, go_sem]) rfl ?_
    exact ⟨by rw [HV.out]; rfl, (Fr.refl _).alloc _⟩
  · have hpos : 0 < s.size := by omega
    have hpos' : (0 : Int) < (s.size : Int) := by omega
    have h0' : ((s.size : Int) == 0) = false := by rw [beq_eq_false_iff_ne]; omega
    have hcons := head_cons s hpos
    have htl := tail_list s
    have htlen : (s.data.toList.drop 1).length = s.size - 1 := by rw [List.length_drop, Array.length_toList]; rfl
    have hb0 : (s[0].toNat : Int) < 256 := by have := s[0].toNat_lt; omega
    by_cases k3 : 3 < s[0].toNat
    · have HV : Hid (vbv s = _) := vbv_err (e := 7) (by rw [hcons]; unfold RM.vl; simp only; rw [if_neg (by omega), if_neg (by omega), if_neg (by omega)])
      have k3' : (3 : Int) < (s[0].toNat : Int) := by omega
      clear hcons htl htlen h0
      go_enter Try.func49, Try.ntmps49
      go_wp2_with fail
      refine bodyPost_ret (v := .tuple #[.agg #[.int .i64 0, .int .i64 0, .string ⟨#[]⟩], .int .i64 0, .int .i64 7]) (by simp [results, Try.results49, go_sem]) rfl ?_
      exact ⟨by rw [HV.out]; rfl, (Fr.refl _).alloc _⟩
    have k3' : (s[0].toNat : Int) ≤ 3 := by omega
    by_cases k0 : s[0].toNat = 0
    · have HV : Hid (vbv s = _) := vbv_ok (x := ⟨0, 0, ⟨#[]⟩⟩) (t := s.data.toList.drop 1) (by rw [hcons]; unfold RM.vl; simp only; rw [if_pos k0]; simp)
      have HC : Hid (((s.size - (s.data.toList.drop 1).length : Nat) : Int) = 1) := by unfold Hid; rw [htlen]; omega
      have k0' : (s[0].toNat : Int) = 0 := by omega
      clear hcons htl htlen h0 k3
      go_enter Try.func49, Try.ntmps49
      go_wp2_with fail
      refine bodyPost_ret (v := .tuple #[.agg #[.int .i64 0, .int .i64 0, .string ⟨#[]⟩], .int .i64 1, .int .i64 0]) (by simp [results, Try.results49, go_sem]) rfl ?_
      exact ⟨by rw [HV.out, HC.out]; rfl, (Fr.refl _).alloc _⟩
    have k0' : ((s[0].toNat : Int) == 0) = false := by rw [beq_eq_false_iff_ne]; omega
    have hex : (s.extract 1 s.size).size ≤ maxLen := by
      have : (s.extract 1 s.size).size ≤ s.size := by rw [ByteArray.size_extract]; omega
      omega
    have hs' : (s.size : Int) ≤ 9223372036854775807 := by unfold maxLen at hs; omega
    have hrle := RM.rd_le (s.data.toList.drop 1)
    have hrlt := NM.rd_lt (s.data.toList.drop 1)
    by_cases k1 : s[0].toNat = 1
    · have hso := fun W => signedOf_any (s.extract 1 s.size) W hex
      have hv : RM.vl s.data.toList = RM.nt (s.data.toList.drop 1) := by rw [hcons]; unfold RM.vl; simp only; rw [if_neg k0, if_pos k1]; simp
      have hnu : RM.nu (s.data.toList.drop 1) = if (NM.rd (s.data.toList.drop 1) 0 0).2.2 = 0 then .ok ((NM.rd (s.data.toList.drop 1) 0 0).1, (s.data.toList.drop 1).drop (NM.rd (s.data.toList.drop 1) 0 0).2.1) else .error (NM.rd (s.data.toList.drop 1) 0 0).2.2 := rfl
      unfold rdsv at hso
      rw [htl] at hso
      generalize s.data.toList.drop 1 = T at *
      generalize hrd : NM.rd T 0 0 = R at *
      obtain ⟨rn, rk, re⟩ := R
      simp only at hso hnu hrle hrlt
      have k1' : ((s[0].toNat : Int) == 1) = true := by rw [beq_iff_eq]; omega
      have k1'' : (s[0].toNat : Int) = 1 := by omega
      have HF : Hid (Fr w (w.alloc (.cells #[.int .i64 0, .int .i64 0, .string ⟨#[]⟩] 66))) := (Fr.refl w).alloc _
      by_cases he : re = 0
      · subst he
        rw [if_pos rfl] at hnu
        have HV : Hid (vbv s = _) := vbv_ok (x := ⟨1, RM.zag rn, ⟨#[]⟩⟩) (t := T.drop rk) (by rw [hv]; unfold RM.nt; rw [hnu])
        have HC : Hid (((s.size - (T.drop rk).length : Nat) : Int) = 1 + (rk : Int)) := by unfold Hid; rw [List.length_drop, htlen]; omega
        have HZ : Hid (RM.zag rn = zagN rn) := rfl
        generalize zagN (rn : Int) = zz at *
        have hk : (rk : Int) ≤ 9223372036854775806 := by omega
        clear hcons htl hv hnu hrd hrle hrlt k3 k0 k1 h0 htlen
        go_enter Try.func49, Try.ntmps49
        go_wp2_with (go_at_call 30; refine (hso _).mono ?_)
        rintro _ w1 ⟨rfl, rfl⟩
        go_wp2_with fail
        refine bodyPost_ret (v := .tuple #[.agg #[.int .i64 1, .int .i64 zz, .string ⟨#[]⟩], .int .i64 (1 + (rk : Int)), .int .i64 0]) (by simp [results, Try.results49, go_sem]) rfl ?_
        exact ⟨by rw [HV.out, HC.out]; unfold VM.Vl.val; rw [HZ.out], (Fr.refl _).alloc _⟩
      · rw [if_neg he] at hnu
        have HV : Hid (vbv s = _) := vbv_err (e := re) (by rw [hv]; unfold RM.nt; rw [hnu])
        have he1 : ((re : Int) != 0) = true := by simp; omega
        have he2 : ¬ ((re : Int) = 0) := by omega
        generalize zagN (rn : Int) = zz at *
        clear hcons htl hv hnu hrd hrle hrlt k3 k0 k1 h0 htlen he
        go_enter Try.func49, Try.ntmps49
        go_wp2_with (go_at_call 30; refine (hso _).mono ?_)
        rintro _ w1 ⟨rfl, rfl⟩
        go_wp2_with fail
        refine bodyPost_ret (v := .tuple #[.agg #[.int .i64 0, .int .i64 0, .string ⟨#[]⟩], .int .i64 0, .int .i64 (re : Int)]) (by simp [results, Try.results49, go_sem]) rfl ?_
        exact ⟨by rw [HV.out], (Fr.refl _).alloc _⟩
    · have hno := fun W => numOf_any (s.extract 1 s.size) W hex
      have k23 : s[0].toNat = 2 ∨ s[0].toNat = 3 := by omega
      have hv : RM.vl s.data.toList = RM.tx s[0].toNat (s.data.toList.drop 1) := by rw [hcons]; unfold RM.vl; simp only; rw [if_neg k0, if_neg k1, if_pos k23]; simp
      have hnu : RM.nu (s.data.toList.drop 1) = if (NM.rd (s.data.toList.drop 1) 0 0).2.2 = 0 then .ok ((NM.rd (s.data.toList.drop 1) 0 0).1, (s.data.toList.drop 1).drop (NM.rd (s.data.toList.drop 1) 0 0).2.1) else .error (NM.rd (s.data.toList.drop 1) 0 0).2.2 := rfl
      have hex2 : ∀ k m : Nat, s.extract (1 + k) (1 + k + m) = ⟨(((s.data.toList.drop 1).drop k).take m).toArray⟩ := by
        intro k m
        apply ByteArray.ext
        apply Array.ext'
        simp [Nat.add_comm]
      unfold rdv at hno
      rw [htl] at hno
      generalize s.data.toList.drop 1 = T at *
      generalize hrd : NM.rd T 0 0 = R at *
      have ht10 := rd_ten T
      rw [hrd] at ht10
      obtain ⟨rn, rk, re⟩ := R
      simp only at hno hnu hrle hrlt ht10
      have k1' : ((s[0].toNat : Int) == 1) = false := by rw [beq_eq_false_iff_ne]; omega
      have k1'' : ¬ (s[0].toNat : Int) = 1 := by omega
      by_cases he : re = 0
      · subst he
        rw [if_pos rfl] at hnu
        by_cases h16 : 16 < rn
        · have HV : Hid (vbv s = _) := vbv_err (e := 2) (by rw [hv]; unfold RM.tx RM.cnt; rw [hnu]; simp only; rw [if_pos h16])
          have h16' : (16 : Int) < (rn : Int) := by omega
          clear hcons htl hv hnu hrd hrle hrlt k3 k0 k1 h0 htlen hex2 k23 h16 ht10
          go_enter Try.func49, Try.ntmps49
          go_wp2_with (go_at_call 29; refine (hno _).mono ?_)
          rintro _ w1 ⟨rfl, rfl⟩
          go_wp2_with fail
          refine bodyPost_ret (v := .tuple #[.agg #[.int .i64 0, .int .i64 0, .string ⟨#[]⟩], .int .i64 0, .int .i64 2]) (by simp [results, Try.results49, go_sem]) rfl ?_
          exact ⟨by rw [HV.out]; rfl, (Fr.refl _).alloc _⟩
        · have h16' : (rn : Int) ≤ 16 := by omega
          have hcn : RM.cnt 16 T = .ok (rn, T.drop rk) := by unfold RM.cnt; rw [hnu]; simp only; rw [if_neg h16]
          by_cases hsh : (T.drop rk).length < rn
          · have HV : Hid (vbv s = _) := vbv_err (e := 5) (by rw [hv]; unfold RM.tx; rw [hcn]; simp only; rw [if_pos hsh])
            have hsh' : (s.size : Int) < 1 + (rk : Int) + (rn : Int) := by rw [List.length_drop] at hsh; omega
            have hk : (rk : Int) ≤ 10 := by have := ht10 rfl; omega
            clear ht10
            clear hcons htl hv hnu hrd hrle hrlt k3 k0 k1 h0 htlen hex2 k23 h16 hcn hsh
            go_enter Try.func49, Try.ntmps49
            go_wp2_with (go_at_call 29; refine (hno _).mono ?_)
            rintro _ w1 ⟨rfl, rfl⟩
            go_wp2_with fail
            refine bodyPost_ret (v := .tuple #[.agg #[.int .i64 0, .int .i64 0, .string ⟨#[]⟩], .int .i64 0, .int .i64 5]) (by simp [results, Try.results49, go_sem]) rfl ?_
            exact ⟨by rw [HV.out]; rfl, (Fr.refl _).alloc _⟩
          · have HV : Hid (vbv s = _) := vbv_ok (x := ⟨(s[0].toNat : Nat), 0, ⟨((T.drop rk).take rn).toArray⟩⟩) (t := (T.drop rk).drop rn) (by rw [hv]; unfold RM.tx; rw [hcn]; simp only; rw [if_neg hsh])
            have hsh' : 1 + (rk : Int) + (rn : Int) ≤ (s.size : Int) := by rw [List.length_drop] at hsh; omega
            have HC : Hid (((s.size - ((T.drop rk).drop rn).length : Nat) : Int) = 1 + (rk : Int) + (rn : Int)) := by unfold Hid; rw [List.length_drop, List.length_drop, htlen]; rw [List.length_drop] at hsh; omega
            have HX : Hid _ := hex2 rk rn
            have hk : (rk : Int) ≤ 10 := by have := ht10 rfl; omega
            clear ht10
            clear hcons htl hv hnu hrd hrle hrlt k3 k0 k1 h0 htlen hex2 k23 h16 hcn hsh
            go_enter Try.func49, Try.ntmps49
            go_wp2_with (go_at_call 29; refine (hno _).mono ?_)
            rintro _ w1 ⟨rfl, rfl⟩
            go_wp2_with fail
            refine bodyPost_ret (v := .tuple #[.agg #[.int .i64 (s[0].toNat : Int), .int .i64 0, .string (s.extract (1 + rk) (1 + rk + rn))], .int .i64 (1 + (rk : Int) + (rn : Int)), .int .i64 0]) (by simp [results, Try.results49, go_sem]) rfl ?_
            exact ⟨by rw [HV.out, HC.out, HX.out]; rfl, (Fr.refl _).alloc _⟩
      · rw [if_neg he] at hnu
        have HV : Hid (vbv s = _) := vbv_err (e := re) (by rw [hv]; unfold RM.tx RM.cnt; rw [hnu])
        have he1 : ((re : Int) != 0) = true := by simp; omega
        have he2 : ¬ ((re : Int) = 0) := by omega
        clear hcons htl hv hnu hrd hrle hrlt k3 k0 k1 h0 htlen he hex2 k23 ht10
        go_enter Try.func49, Try.ntmps49
        go_wp2_with (go_at_call 29; refine (hno _).mono ?_)
        rintro _ w1 ⟨rfl, rfl⟩
        go_wp2_with fail
        refine bodyPost_ret (v := .tuple #[.agg #[.int .i64 0, .int .i64 0, .string ⟨#[]⟩], .int .i64 0, .int .i64 (re : Int)]) (by simp [results, Try.results49, go_sem]) rfl ?_
        exact ⟨by rw [HV.out], (Fr.refl _).alloc _⟩
end Go.Proofs.Ythpcdhnaibpjnaa
