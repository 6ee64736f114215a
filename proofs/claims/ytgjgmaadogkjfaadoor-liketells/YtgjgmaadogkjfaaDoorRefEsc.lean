/-
  The document's escaped text, and its beginning of a pattern.
-/
import Derived.Test.YtgjgmaadogkjfaaDoorRefPcs
import Derived.Test.YtgjgmaadogkjfaaDoorLkBytes
namespace Go.Proofs.YtgjgmaadogkjfaaDoor
open Go.ChangeShapes Go.WideShapes Go.ChangeAt Go.RowKit Go.Shelf
set_option linter.unusedVariables false

theorem mk_app (x y : LK.Bs) : (⟨x.toArray⟩ : ByteArray) ++ (⟨y.toArray⟩ : ByteArray) = ⟨(x ++ y).toArray⟩ := by
  apply tl_inj
  rw [Lib.toList_data, Lib.toList_data, ByteArray.data_append]
  simp
theorem one_byte (S : ByteArray) (i : Nat) (h : i < S.size) : S.extract i (i + 1) = ⟨([S[i]] : LK.Bs).toArray⟩ := by
  rw [ext_list S i 1 (by omega)]
  have := LK.drop_at (byte_at S i h)
  rw [this]
  rfl
theorem take_byte (S : ByteArray) (i : Nat) (h : i < S.size) : S.data.toList.take (i + 1) = S.data.toList.take i ++ [S[i]] := by
  rw [List.take_add_one, byte_at S i h]; rfl

set_option maxRecDepth 100000 in
set_option maxHeartbeats 2000000 in
theorem escapedOf_any (S : ByteArray) (w : World) (hS : S.size ≤ 4194304) :
    Calls Tryd.prog 18 #[.string S] w fun e w' => e = .returned (.string ⟨(LK.besc S.data.toList).toArray⟩) ∧ w' = w := by
  go_enter Tryd.func18, Tryd.ntmps18
  go_wp2
  go_loop [3, 4] (fun ov iv => ∃ (i : Nat) (o : ByteArray), iv = .int .i64 i ∧ i ≤ S.size ∧ ov = .string o ∧ o = ⟨(LK.besc (S.data.toList.take i)).toArray⟩ ∧ o.size ≤ 2 * i) (fun _ iv => S.size - (intOf iv).toNat)
  case atStart => exact ⟨0, ⟨#[]⟩, rfl, Nat.zero_le _, rfl, rfl, by decide⟩
  case round =>
    obtain ⟨i, o, rfl, hi, rfl, ho, hos⟩ := hrel
    by_cases hlt : i < S.size
    · have hltZ : (i : Int) < (S.size : Int) := by omega
      have hltZ2 : (i : Int) + 1 ≤ (S.size : Int) := by omega
      have hb := take_byte S i hlt
      have hone := one_byte S i hlt
      have hst : LK.besc (S.data.toList.take (i + 1)) = LK.besc (S.data.toList.take i) ++ LK.be S[i] := by rw [hb, LK.besc_snoc]
      have hm1 : S.size - (i + 1) < S.size - i := by omega
      cases hk : LK.bk S[i] with
      | false =>
        have H2 : Hid (o ++ S.extract i (i + 1) = ⟨(LK.besc (S.data.toList.take (i + 1))).toArray⟩) := by
          unfold Hid
          have e : LK.be S[i] = [S[i]] := by unfold LK.be; rw [if_neg (by rw [hk]; decide)]
          rw [hst, ho, hone, mk_app, e]
        have H3 : Hid ((o ++ S.extract i (i + 1)).size ≤ 2 * (i + 1)) := by unfold Hid; rw [ByteArray.size_append, hone]; show o.size + 1 ≤ _; omega
        have hz : o.size + (S.extract i (i + 1)).size ≤ 9223372036854775807 := by rw [hone]; show o.size + 1 ≤ _; omega
        have h1 : S[i].toNat ≠ 37 ∧ S[i].toNat ≠ 95 ∧ S[i].toNat ≠ 92 := by
          unfold LK.bk at hk
          simp only [Bool.or_eq_false_iff, beq_eq_false_iff_ne] at hk
          exact hk
        have q1 : ((S[i].toNat : Int) == 37) = false := by simp; omega
        have q2 : ((S[i].toNat : Int) == 95) = false := by simp; omega
        have q3 : ((S[i].toNat : Int) == 92) = false := by simp; omega
        clear ho hst hone hb h1 hk
        go_wp2
        go_round
        case rel => exact ⟨i + 1, _, by simp, hlt, rfl, H2.out, H3.out⟩
        case measure => simpa [intOf] using hm1
      | true =>
        have H2 : Hid (o ++ (⟨#[92]⟩ : ByteArray) ++ S.extract i (i + 1) = ⟨(LK.besc (S.data.toList.take (i + 1))).toArray⟩) := by
          unfold Hid
          have e : LK.be S[i] = [92] ++ [S[i]] := by unfold LK.be; rw [if_pos hk]; rfl
          rw [hst, ho, hone, show (⟨#[92]⟩ : ByteArray) = ⟨([92] : LK.Bs).toArray⟩ from rfl, mk_app, mk_app, e, List.append_assoc]
        have hz0 : o.size + (⟨#[92]⟩ : ByteArray).size ≤ 9223372036854775807 := by show o.size + 1 ≤ _; omega
        have hsz : (o ++ (⟨#[92]⟩ : ByteArray)).size = o.size + 1 := by rw [ByteArray.size_append]; rfl
        have H3 : Hid ((o ++ (⟨#[92]⟩ : ByteArray) ++ S.extract i (i + 1)).size ≤ 2 * (i + 1)) := by unfold Hid; rw [ByteArray.size_append, hone, hsz]; show o.size + 1 + 1 ≤ _; omega
        have hz : (o ++ (⟨#[92]⟩ : ByteArray)).size + (S.extract i (i + 1)).size ≤ 9223372036854775807 := by rw [hone, hsz]; show o.size + 1 + 1 ≤ _; omega
        have h1 : S[i].toNat = 37 ∨ S[i].toNat = 95 ∨ S[i].toNat = 92 := by
          unfold LK.bk at hk
          simp only [Bool.or_eq_true, beq_iff_eq] at hk
          exact hk
        clear ho hst hone hb hk hsz
        by_cases k1 : S[i].toNat = 37
        · have q1 : ((S[i].toNat : Int) == 37) = true := by simp; omega
          clear h1 k1
          go_wp2
          go_round
          case rel => exact ⟨i + 1, _, by simp, hlt, rfl, H2.out, H3.out⟩
          case measure => simpa [intOf] using hm1
        · by_cases k2 : S[i].toNat = 95
          · have q1 : ((S[i].toNat : Int) == 37) = false := by simp; omega
            have q2 : ((S[i].toNat : Int) == 95) = true := by simp; omega
            clear h1 k1 k2
            go_wp2
            go_round
            case rel => exact ⟨i + 1, _, by simp, hlt, rfl, H2.out, H3.out⟩
            case measure => simpa [intOf] using hm1
          · have q1 : ((S[i].toNat : Int) == 37) = false := by simp; omega
            have q2 : ((S[i].toNat : Int) == 95) = false := by simp; omega
            have q3 : ((S[i].toNat : Int) == 92) = true := by simp; omega
            clear h1 k1 k2
            go_wp2
            go_round
            case rel => exact ⟨i + 1, _, by simp, hlt, rfl, H2.out, H3.out⟩
            case measure => simpa [intOf] using hm1
    · have hltZ : ¬ (i : Int) < (S.size : Int) := by omega
      have he : S.data.toList.take i = S.data.toList := List.take_of_length_le (by rw [Array.length_toList]; show S.size ≤ i; omega)
      rw [he] at ho
      have HO : Hid _ := ho
      clear ho he
      go_wp2
      go_ret
      exact ⟨by rw [← HO.out]; rfl, rfl⟩

theorem lit_eq (x : LK.Bs) (c : UInt8) (n : Nat) (hx : LK.pc x = [x]) (hc : c.toNat = n) (h128 : n < 128) (hk : LK.kd [c] = n) (h97 : (n : Int) ≠ 97) : ((⟨x.toArray⟩ : ByteArray).toList == [c]) = decide (LK.kd x = (n : Int)) := by
  rw [Lib.toList_data]
  show (x == [c]) = _
  have h := LK.kd_lit x hx c (by omega) (by rw [hc]; exact hk) (by rw [hc]; exact h97)
  rw [hc] at h
  by_cases hq : x = [c]
  · rw [decide_eq_true (h.2 hq), hq, beq_self_eq_true]
  · rw [decide_eq_false (fun e => hq (h.1 e)), beq_false_of_ne hq]

set_option maxRecDepth 100000 in
set_option maxHeartbeats 2000000 in
theorem prefixOf_any (S : ByteArray) (w : World) (h0 : perr S = 0) :
    Calls Tryd.prog 19 #[.string S] w fun e w' => e = .returned (.tuple #[.string ⟨(LK.pre (prts S)).toArray⟩, .bool (LK.whole (prts S))]) ∧ Fr w w' := by
  have hsz : S.size ≤ 32 := by
    unfold perr at h0
    split at h0
    · cases h0
    · omega
  have hpo := piecesOf_any S w (by omega)
  have hrun : LK.run (LK.pc S.data.toList) = (false, prts S) := by
    have h1 : (LK.run (LK.pc S.data.toList)).1 = false := by
      unfold perr at h0
      split at h0
      · cases h0
      · cases hr : (LK.run (LK.pc S.data.toList)).1 with
        | false => rfl
        | true => rw [if_pos hr] at h0; cases h0
    exact Prod.ext h1 rfl
  rw [LK.run_eq] at hrun
  have hone : ∀ x ∈ LK.pc S.data.toList, LK.pc x = [x] ∧ x.length ≤ 4 := fun x hx => ⟨(LK.pc_one hx).1, LK.pc_four _ x hx⟩
  have hlen : (LK.pc S.data.toList).length ≤ 32 := by
    have h1 := LK.pc_len S.data.toList
    have h2 : S.data.toList.length = S.size := by rw [Array.length_toList]; rfl
    omega
  obtain ⟨L, hL⟩ : ∃ L, LK.pc S.data.toList = L := ⟨_, rfl⟩
  obtain ⟨PR, hPR⟩ : ∃ PR, prts S = PR := ⟨_, rfl⟩
  rw [hL] at hpo hrun hone hlen
  rw [hPR] at hrun ⊢
  have HR : Hid _ := hrun
  have HO : Hid _ := hone
  clear hrun hone hL hPR h0
  go_enter Tryd.func19, Tryd.ntmps19
  go_wp2_with fail
  refine hpo.mono ?_
  rintro _ w1 ⟨v, rfl, ⟨a, cap, rfl, hcap, hcs⟩, f1⟩
  have HC : Hid _ := hcs
  clear hpo hcs
  go_wp2
  go_loop [5, 6] (fun ov iv => ∃ (i : Nat) (o : ByteArray) (done : LK.Bs) (ps : List LK.Part), iv = .int .i64 i ∧ i ≤ L.length ∧ ov = .string o ∧ o = ⟨done.toArray⟩ ∧ o.size ≤ 4 * i ∧ LK.prs false (L.drop i) = (false, ps) ∧ LK.pre PR = done ++ LK.pre ps ∧ LK.whole PR = LK.whole ps) (fun _ iv => L.length - (intOf iv).toNat)
  case atStart => exact ⟨0, ⟨#[]⟩, [], PR, rfl, Nat.zero_le _, rfl, rfl, by decide, HR.out, rfl, rfl⟩
  case round =>
    obtain ⟨i, o, done, ps, rfl, hi, rfl, ho, hos, hprs, hpre, hwh⟩ := hrel
    by_cases hlt : i < L.length
    · have hltZ : (i : Int) < (L.length : Int) := by omega
      obtain ⟨x, hx⟩ : ∃ x, L[i]? = some x := ⟨L[i], List.getElem?_eq_getElem hlt⟩
      obtain ⟨b, rfl, hb, hc⟩ : ∃ b, a = some ⟨b, 0, none⟩ ∧ b < w1.heap.size ∧ ∀ i x, L[i]? = some x → w1.cell? ⟨b, i, none⟩ = some (sv x) := by
        rcases HC.out with h | h
        · rw [h] at hlt; simp at hlt
        · exact h
      have c0 := hc i x hx
      obtain ⟨o1, o4⟩ := HO.out x (List.mem_of_getElem? hx)
      have e37 : ((⟨x.toArray⟩ : ByteArray).toList == [37]) = decide (LK.kd x = 37) := lit_eq x 37 37 o1 rfl (by decide) rfl (by decide)
      have e95 : ((⟨x.toArray⟩ : ByteArray).toList == [95]) = decide (LK.kd x = 95) := lit_eq x 95 95 o1 rfl (by decide) rfl (by decide)
      have e92 : ((⟨x.toArray⟩ : ByteArray).toList == [92]) = decide (LK.kd x = 92) := lit_eq x 92 92 o1 rfl (by decide) rfl (by decide)
      have hd := LK.drop_at hx
      rw [hd] at hprs
      unfold sv at c0
      have hkd : LK.kd x = 37 ∨ LK.kd x = 95 ∨ LK.kd x = 92 ∨ LK.kd x = 97 := by
        unfold LK.kd
        split
        · exact Or.inr (Or.inr (Or.inr rfl))
        · split
          · exact Or.inl rfl
          · split
            · exact Or.inr (Or.inl rfl)
            · split
              · exact Or.inr (Or.inr (Or.inl rfl))
              · exact Or.inr (Or.inr (Or.inr rfl))
      rcases hkd with k | k | k | k
      · have d1 : ((⟨x.toArray⟩ : ByteArray).toList == [37]) = true := by rw [e37, k]; rfl
        have hps : ps = (37, x) :: (LK.prs false (L.drop (i + 1))).2 := by
          have e : LK.kdE false x = 37 := k
          have e2 : LK.prs false (x :: L.drop (i + 1)) = ((LK.prs false (L.drop (i + 1))).1, (37, x) :: (LK.prs false (L.drop (i + 1))).2) := by
            conv => lhs; unfold LK.prs
            rw [e, if_neg (by decide)]
          rw [e2] at hprs
          exact (congrArg Prod.snd hprs).symm
        have hh := LK.pre_cons_stop 37 x (LK.prs false (L.drop (i + 1))).2 (by decide)
        rw [← hps] at hh
        have H1 : Hid (LK.pre PR = done) := by unfold Hid; rw [hpre, hh.1, List.append_nil]
        have H2 : Hid (LK.whole PR = false) := by unfold Hid; rw [hwh, hh.2]
        have H3 : Hid _ := ho
        clear hpre hwh ho hprs hps hh k hx hc o1 o4 hd e37 e95 e92
        generalize (⟨x.toArray⟩ : ByteArray) = sx at c0 d1
        have g1 : sx.toList = [37] := eq_of_beq d1
        go_wp2
        go_ret2
        exact ⟨by rw [H1.out, H2.out, H3.out]; rfl, f1⟩
      · have d1 : ((⟨x.toArray⟩ : ByteArray).toList == [37]) = false := by rw [e37, k]; rfl
        have d2 : ((⟨x.toArray⟩ : ByteArray).toList == [95]) = true := by rw [e95, k]; rfl
        have hps : ps = (95, x) :: (LK.prs false (L.drop (i + 1))).2 := by
          have e : LK.kdE false x = 95 := k
          have e2 : LK.prs false (x :: L.drop (i + 1)) = ((LK.prs false (L.drop (i + 1))).1, (95, x) :: (LK.prs false (L.drop (i + 1))).2) := by
            conv => lhs; unfold LK.prs
            rw [e, if_neg (by decide)]
          rw [e2] at hprs
          exact (congrArg Prod.snd hprs).symm
        have hh := LK.pre_cons_stop 95 x (LK.prs false (L.drop (i + 1))).2 (by decide)
        rw [← hps] at hh
        have H1 : Hid (LK.pre PR = done) := by unfold Hid; rw [hpre, hh.1, List.append_nil]
        have H2 : Hid (LK.whole PR = false) := by unfold Hid; rw [hwh, hh.2]
        have H3 : Hid _ := ho
        clear hpre hwh ho hprs hps hh k hx hc o1 o4 hd e37 e95 e92
        generalize (⟨x.toArray⟩ : ByteArray) = sx at c0 d1 d2
        have g2 : sx.toList = [95] := eq_of_beq d2
        have g1 : ¬ sx.toList = [37] := ne_of_beq_false d1
        go_wp2
        go_ret2
        exact ⟨by rw [H1.out, H2.out, H3.out]; rfl, f1⟩
      · have d1 : ((⟨x.toArray⟩ : ByteArray).toList == [37]) = false := by rw [e37, k]; rfl
        have d2 : ((⟨x.toArray⟩ : ByteArray).toList == [95]) = false := by rw [e95, k]; rfl
        have d3 : ((⟨x.toArray⟩ : ByteArray).toList == [92]) = true := by rw [e92, k]; rfl
        have hp2 : LK.prs true (L.drop (i + 1)) = (false, ps) := by
          rw [← hprs]
          conv => rhs; unfold LK.prs
          have e : LK.kdE false x = 92 := k
          rw [if_pos e]
        have hlt2 : i + 1 < L.length := by
          refine Nat.lt_of_not_le fun h => ?_
          rw [List.drop_eq_nil_of_le h] at hp2
          cases congrArg Prod.fst hp2
        have hlt2Z : (i : Int) + 1 < (L.length : Int) := by omega
        obtain ⟨y, hy⟩ : ∃ y, L[i + 1]? = some y := ⟨L[i + 1], List.getElem?_eq_getElem hlt2⟩
        have c1 := hc (i + 1) y hy
        have y4 := (HO.out y (List.mem_of_getElem? hy)).2
        rw [LK.drop_at hy] at hp2
        have hps : ps = (97, y) :: (LK.prs false (L.drop (i + 1 + 1))).2 ∧ (LK.prs false (L.drop (i + 1 + 1))).1 = false := by
          have e : LK.kdE true y = 97 := rfl
          have e2 : LK.prs true (y :: L.drop (i + 1 + 1)) = ((LK.prs false (L.drop (i + 1 + 1))).1, (97, y) :: (LK.prs false (L.drop (i + 1 + 1))).2) := by
            conv => lhs; unfold LK.prs
            rw [e, if_neg (by decide)]
          rw [e2] at hp2
          exact ⟨(congrArg Prod.snd hp2).symm, congrArg Prod.fst hp2⟩
        have hh := LK.pre_cons_plain y (LK.prs false (L.drop (i + 1 + 1))).2
        rw [← hps.1] at hh
        have H0 : Hid (LK.prs false (L.drop (i + 1 + 1)) = (false, (LK.prs false (L.drop (i + 1 + 1))).2)) := Prod.ext hps.2 rfl
        have H1 : Hid (LK.pre PR = (done ++ y) ++ LK.pre (LK.prs false (L.drop (i + 1 + 1))).2) := by unfold Hid; rw [hpre, hh.1, List.append_assoc]
        have H2 : Hid (LK.whole PR = LK.whole (LK.prs false (L.drop (i + 1 + 1))).2) := by unfold Hid; rw [hwh, hh.2]
        have H3 : Hid (o ++ (⟨y.toArray⟩ : ByteArray) = ⟨(done ++ y).toArray⟩) := by unfold Hid; rw [ho, mk_app]
        have ys : (⟨y.toArray⟩ : ByteArray).size ≤ 4 := by show y.toArray.size ≤ 4; rw [List.size_toArray]; exact y4
        have H4 : Hid ((o ++ (⟨y.toArray⟩ : ByteArray)).size ≤ 4 * (i + 1 + 1)) := by unfold Hid; rw [ByteArray.size_append]; omega
        have hz : o.size + (⟨y.toArray⟩ : ByteArray).size ≤ 9223372036854775807 := by omega
        unfold sv at c1
        clear hpre hwh ho hprs hps hh k hx hc o1 o4 hd e37 e95 e92 hp2 hy y4
        generalize (⟨x.toArray⟩ : ByteArray) = sx at c0 d1 d2 d3
        have g1 : ¬ sx.toList = [37] := ne_of_beq_false d1
        have g2 : ¬ sx.toList = [95] := ne_of_beq_false d2
        have g3 : sx.toList = [92] := eq_of_beq d3
        obtain ⟨sy, hsy⟩ : ∃ sy : ByteArray, sy = ⟨y.toArray⟩ := ⟨_, rfl⟩
        rw [← hsy] at c1 H3 H4 hz ys
        clear hsy
        go_wp2
        go_round
        case rel => exact ⟨i + 1 + 1, _, done ++ y, _, by simp, hlt2, rfl, H3.out, H4.out, H0.out, H1.out, H2.out⟩
        case measure => simp [intOf]; omega
      · have d1 : ((⟨x.toArray⟩ : ByteArray).toList == [37]) = false := by rw [e37, k]; rfl
        have d2 : ((⟨x.toArray⟩ : ByteArray).toList == [95]) = false := by rw [e95, k]; rfl
        have d3 : ((⟨x.toArray⟩ : ByteArray).toList == [92]) = false := by rw [e92, k]; rfl
        have hps : ps = (97, x) :: (LK.prs false (L.drop (i + 1))).2 ∧ (LK.prs false (L.drop (i + 1))).1 = false := by
          have e : LK.kdE false x = 97 := k
          have e2 : LK.prs false (x :: L.drop (i + 1)) = ((LK.prs false (L.drop (i + 1))).1, (97, x) :: (LK.prs false (L.drop (i + 1))).2) := by
            conv => lhs; unfold LK.prs
            rw [e, if_neg (by decide)]
          rw [e2] at hprs
          exact ⟨(congrArg Prod.snd hprs).symm, congrArg Prod.fst hprs⟩
        have hh := LK.pre_cons_plain x (LK.prs false (L.drop (i + 1))).2
        rw [← hps.1] at hh
        have H0 : Hid (LK.prs false (L.drop (i + 1)) = (false, (LK.prs false (L.drop (i + 1))).2)) := Prod.ext hps.2 rfl
        have H1 : Hid (LK.pre PR = (done ++ x) ++ LK.pre (LK.prs false (L.drop (i + 1))).2) := by unfold Hid; rw [hpre, hh.1, List.append_assoc]
        have H2 : Hid (LK.whole PR = LK.whole (LK.prs false (L.drop (i + 1))).2) := by unfold Hid; rw [hwh, hh.2]
        have H3 : Hid (o ++ (⟨x.toArray⟩ : ByteArray) = ⟨(done ++ x).toArray⟩) := by unfold Hid; rw [ho, mk_app]
        have xs : (⟨x.toArray⟩ : ByteArray).size ≤ 4 := by show x.toArray.size ≤ 4; rw [List.size_toArray]; exact o4
        have H4 : Hid ((o ++ (⟨x.toArray⟩ : ByteArray)).size ≤ 4 * (i + 1)) := by unfold Hid; rw [ByteArray.size_append]; omega
        have hz : o.size + (⟨x.toArray⟩ : ByteArray).size ≤ 9223372036854775807 := by omega
        clear hpre hwh ho hprs hps hh k hx hc o1 o4 hd e37 e95 e92
        obtain ⟨sx, hsx⟩ : ∃ sx : ByteArray, sx = ⟨x.toArray⟩ := ⟨_, rfl⟩
        rw [← hsx] at c0 d1 d2 d3 H3 H4 hz xs
        clear hsx
        have g1 : ¬ sx.toList = [37] := ne_of_beq_false d1
        have g2 : ¬ sx.toList = [95] := ne_of_beq_false d2
        have g3 : ¬ sx.toList = [92] := ne_of_beq_false d3
        go_wp2
        go_round
        case rel => exact ⟨i + 1, _, done ++ x, _, by simp, hlt, rfl, H3.out, H4.out, H0.out, H1.out, H2.out⟩
        case measure => simp [intOf]; omega
    · have hltZ : ¬ (i : Int) < (L.length : Int) := by omega
      rw [List.drop_eq_nil_of_le (by omega)] at hprs
      have hps : ps = [] := by
        have := congrArg Prod.snd hprs
        exact this.symm
      subst hps
      have H1 : Hid (LK.pre PR = done) := by unfold Hid; rw [hpre]; simp [LK.pre]
      have H2 : Hid (LK.whole PR = true) := by unfold Hid; rw [hwh]; rfl
      have H3 : Hid _ := ho
      clear hpre hwh ho hprs
      go_wp2
      go_ret2
      exact ⟨by rw [H1.out, H2.out, H3.out]; rfl, f1⟩
end Go.Proofs.YtgjgmaadogkjfaaDoor
