/-
  What Unpack of package leaf answers, for every text.
-/
import Derived.Test.YthpcdhnaibpjnaaLfU
namespace Go.Proofs.Ythpcdhnaibpjnaa
open Go.ChangeShapes Go.WideShapes Go.ChangeAt Go.RowKit
set_option linter.unusedVariables false
set_option linter.unusedSimpArgs false
set_option maxRecDepth 100000

theorem cell_new2 (w : World) (a b : Value) (T : TypeId) (n : Nat) (hn : n = w.heap.size) : ∀ j u, [a, b][j]? = some u → (w.alloc (.cells #[a, b] T)).cell? ((⟨n, 0, none⟩ : Addr).add j) = some u := by
  intro j u hu
  subst hn
  have h : (⟨w.heap.size, 0, none⟩ : Addr).add j = ⟨w.heap.size, 0 + j, none⟩ := by
    unfold Addr.add
    split
    · rename_i h0; subst h0; rfl
    · rfl
  rw [h, Nat.zero_add, Lib.cell_of_heap (alloc_heap w (.cells #[a, b] T)) j]
  have : (#[a, b] : Array Value)[j]? = [a, b][j]? := by simp
  rw [this]
  exact hu
theorem Oe.mv {B c : Nat} {x : Int} {v : Value} {l : List Ev} {w w' : World} (h : Oe B v l w) (hc : LsAt w c x) (f : Mv c w w') : Oe B v l w' := by
  have key : ∀ (T : TypeId), T ≠ 2 → ∀ (k : Nat) (cur : Array Value), w.heap[k]? = some (.cells cur T (0, 0)) → w'.heap[k]? = w.heap[k]? := fun T hT k cur hk => f.2 k (Array.getElem?_eq_some_iff.1 hk).1 (fun e => by
    subst e
    unfold LsAt at hc
    rw [hc] at hk
    simp only [Option.some.injEq, Obj.cells.injEq] at hk
    exact absurd hk.2.1.symm hT)
  exact ⟨own_keep h.own fun k cur _ hk => key _ (by decide) k cur hk, fun p hp => (h.rows p hp).keep fun k cur hk => key _ (by decide) k cur hk⟩
/-- what Unpack answers -/
def UnpAs (B : Nat) (s : ByteArray) (e : Ending) (w' : World) : Prop :=
  match LF.unp s.data.toList with
  | .error k => e = .returned (.tuple #[.slice none 0 0, .int .i64 (k : Nat)])
  | .ok xs => ∃ v es, e = .returned (.tuple #[v, .int .i64 0]) ∧ Oe B v es w' ∧ es.map (·.1) = xs

theorem unp_bad {l : List UInt8} (h : l.length ≤ 245) {e : Nat} (hn : RM.nu l = .error e) : LF.unp l = .error e := by
  unfold LF.unp
  rw [if_neg (by omega), hn]
theorem unp_many {l t : List UInt8} (h : l.length ≤ 245) {n : Nat} (hn : RM.nu l = .ok (n, t)) (h40 : 40 < n) : LF.unp l = .error 2 := by
  unfold LF.unp
  rw [if_neg (by omega), hn]
  simp only
  rw [if_pos h40]
def LF.fin (x : Except Nat (List LF.En × List UInt8)) : Except Nat (List LF.En) :=
  match x with
  | .error e => .error e
  | .ok (xs, u) => if u = [] then .ok xs else .error 1
theorem unp_go {l t : List UInt8} (h : l.length ≤ 245) {n : Nat} (hn : RM.nu l = .ok (n, t)) (h40 : n ≤ 40) : LF.unp l = LF.fin (LF.ens n 0 t) := by
  unfold LF.unp
  rw [if_neg (by omega), hn]
  simp only
  rw [if_neg (by omega)]
  cases LF.ens n 0 t with
  | error e => rfl
  | ok p => rfl
theorem ext_drop (s : ByteArray) (k : Nat) : (s.extract k s.size).data.toList = s.data.toList.drop k := by
  rw [Lib.extract_eq]
  simp only
  rw [List.take_of_length_le]
  have : s.data.toList.length = s.size := by rw [Array.length_toList]; rfl
  rw [List.length_drop, this]
  exact Nat.le_refl _

set_option maxHeartbeats 1000000 in
theorem unpack_any (s : ByteArray) (w : World) (hs : s.size ≤ 9223372036854775807) :
    Calls Try.prog 9 #[.string s] w fun e w' => UnpAs w.heap.size s e w' ∧ Fr w w' := by
  obtain ⟨i0, hi0, hz0, hz1, hz2⟩ := info_parts Try.infoEn
  have hlen : s.data.toList.length = s.size := by rw [Array.length_toList]; rfl
  by_cases h245 : 245 < s.size
  · have hx := hideP (LF.unp_long (l := s.data.toList) (by omega))
    have h245' : (245 : Int) < (s.size : Int) := by omega
    go_enter Try.func9, Try.ntmps9
    go_wp2_with fail
    go_ret2
    refine ⟨?_, Fr.refl _⟩
    unfold UnpAs
    rw [hx.out]
    rfl
  have h245' : (s.size : Int) ≤ 245 := by omega
  have hle : s.data.toList.length ≤ 245 := by omega
  have hrd := fun W => read_any s W (by unfold maxLen; omega)
  have hrk := RM.rd_le s.data.toList
  have hrn := NM.rd_lt s.data.toList
  unfold rdv at hrd
  obtain ⟨n, k, er, hD⟩ : ∃ n k er, NM.rd s.data.toList 0 0 = (n, k, er) := ⟨_, _, _, rfl⟩
  have hnu : RM.nu s.data.toList = if er = 0 then .ok (n, s.data.toList.drop k) else .error er := by
    unfold RM.nu
    rw [hD]
  have hbad : er ≠ 0 → n = 0 ∧ k = 0 := fun he => by
    have := NM.rd_bad s.data.toList 0 0 (by rw [hD]; exact he)
    rw [hD] at this
    exact this
  rw [hD] at hrd hrk hrn
  simp only at hrd hrk hrn
  rw [hlen] at hrk
  by_cases he : er = 0
  · rw [if_pos he] at hnu
    subst he
    by_cases h40 : 40 < n
    · have hx := hideP (unp_many hle hnu h40)
      have h40' : (40 : Int) < (n : Int) := by omega
      clear hnu hbad hD hrk hle hlen
      go_enter Try.func9, Try.ntmps9
      go_wp2_with fail
      refine (hrd _).mono ?_
      rintro _ w1 ⟨rfl, rfl⟩
      clear hrd
      go_wp2_with fail
      go_ret2
      refine ⟨?_, Fr.refl _⟩
      unfold UnpAs
      rw [hx.out]
      rfl
    · have HX := hideP (unp_go hle hnu (by omega))
      have h40' : (n : Int) ≤ 40 := by omega
      have hri := rising_any w
      have hxd := ext_drop s k
      have hkI : (k : Int) ≤ (s.size : Int) := by omega
      have hxs : (s.extract k s.size).size ≤ 245 := by
        have := congrArg List.length hxd
        rw [List.length_drop, hlen] at this
        rw [← show (s.extract k s.size).data.toList.length = (s.extract k s.size).size by rw [Array.length_toList]; rfl]
        omega
      have HXD := hideP hxd
      have HXS := hideP hxs
      clear hnu hbad hD hle hlen hxd hxs
      go_enter Try.func9, Try.ntmps9
      go_wp2_with fail
      refine (hrd _).mono ?_
      rintro _ w1 ⟨rfl, rfl⟩
      clear hrd
      go_wp2_with fail
      refine hri.mono ?_
      rintro _ w2 ⟨rfl, hls, hf2⟩
      have HL2 := hideP hls
      have HF2 := hideP hf2
      clear hri hls hf2
      go_wp2_with fail
      go_loopw [7, 8, 32] (fun rv lv iv wr => ∃ (i : Nat) (S : ByteArray) (es : List Ev), iv = .int .u64 i ∧ rv = .string S ∧ i ≤ n ∧ es.length = i ∧ Oe w1.heap.size lv es wr ∧ LsAt wr w1.heap.size (LF.lst 0 (es.map (·.1))) ∧ LF.ens n 0 (s.data.toList.drop k) = LF.pre (es.map (·.1)) (LF.ens (n - i) (LF.lst 0 (es.map (·.1))) S.data.toList) ∧ S.size ≤ 245 ∧ Fr w1 wr) (fun _ _ iv _ => n - (intOf iv).toNat)
      case atStart => exact ⟨0, _, [], rfl, rfl, Nat.zero_le _, rfl, Oe.nil _ _, HL2.out, by rw [HXD.out]; exact (LF.pre_nil _).symm, HXS.out, HF2.out⟩
      case round =>
        obtain ⟨i, S, es, rfl, rfl, hi, hel, hoe, hls, hens, hS, hfr⟩ := hrel
        by_cases hlt : i < n
        · have hrd := lread_any S w1.heap.size _ wr (by omega) hls
          have hni : n - i = (n - i - 1) + 1 := by omega
          rw [hni] at hens
          generalize hlast : LF.lst 0 (es.map (·.1)) = last at *
          have hSl : S.data.toList.length = S.size := by rw [Array.length_toList]; rfl
          unfold EnAs at hrd
          have hltI : (i : Int) < (n : Int) := by omega
          have HOE := hideP hoe
          have HLS := hideP hls
          have HFR := hideP hfr
          have hcw := hls.lt
          match hx : LF.en last S.data.toList with
          | .error q =>
            rw [hx] at hrd
            rw [LF.ens_bad hx] at hens
            have HENS := hideP hens
            have hne := LF.en_err hx
            have q1 : ((q : Int) != 0) = true := by simp; omega
            have q2 : ¬ ((q : Int) = 0) := by omega
            simp only at hrd
            clear hx hoe hls hfr hens hlast hel hni
            go_wp2_with fail
            refine hrd.mono ?_
            rintro _ w3 ⟨rfl, hmv⟩
            have HF3 : Hid (Fr w1 w3) := Below.trans HFR.out (hmv.1 _ (Nat.le_refl _) (Nat.le_of_lt hcw))
            clear hrd hmv
            go_wp2_with fail
            go_ret2
            refine ⟨?_, Fr.alloc HF3.out _⟩
            unfold UnpAs
            rw [HX.out, HENS.out]
            rfl
          | .ok ((id, r), t) =>
            rw [hx] at hrd
            rw [LF.ens_step hx] at hens
            simp only at hrd hens
            have HENS := hideP hens
            obtain ⟨hone, hwd, hsp⟩ := LF.en_only hx
            have htl := LF.en_le hx
            rw [hSl] at htl
            have hcast : (S.size : Int) - (t.length : Int) = ((S.size - t.length : Nat) : Int) := by omega
            rw [hcast] at hrd
            have hdr : S.data.toList.drop (S.size - t.length) = t := by
              have e1 : S.size - t.length = (LF.eb (id, r)).length := by
                have := congrArg List.length hsp
                rw [List.length_append, hSl] at this
                omega
              rw [e1, hsp, List.drop_left]
            generalize hm : S.size - t.length = m at *
            have hmI : (m : Int) ≤ (S.size : Int) := by omega
            have hmN : m ≤ S.size := by omega
            have hext := ext_drop S m
            rw [hdr] at hext
            have HEXT := hideP hext
            have HXS2 : Hid ((S.extract m S.size).size ≤ 245) := by
              have := congrArg List.length hext
              rw [show (S.extract m S.size).data.toList.length = (S.extract m S.size).size by rw [Array.length_toList]; rfl] at this
              show (S.extract m S.size).size ≤ 245
              omega
            clear hx hoe hls hfr hens hlast hni hone hwd hsp hdr hcast hext htl hm
            go_wp2_with fail
            refine hrd.mono ?_
            rintro _ w3 ⟨⟨v, rfl, hrow, hls3⟩, hmv⟩
            have HF3 : Hid (Fr w1 w3) := Below.trans HFR.out (hmv.1 _ (Nat.le_refl _) (Nat.le_of_lt hcw))
            have hoe3 := Oe.mv HOE.out HLS.out hmv
            have hf2 : Fr w3 ((w3.alloc (.cells #[.int .i64 id, v] 43)).alloc (.cells #[.int .i64 id, v] 43)) := ((Fr.refl w3).alloc _).alloc _
            have hs3 : (w3.alloc (.cells #[.int .i64 id, v] 43)).heap.size = w3.heap.size + 1 := alloc_size _ _
            have HOE4 := hideP (hoe3.fr hf2)
            have HOW := hideP HOE4.out.own
            have HBK := hideP (own_block HOW.out)
            have HL4 := hideP (LsAt.fr hls3 hf2)
            have HF4 := hideP (Fr.trans HF3.out hf2)
            have HR4 := hideP (hrow.fr hf2)
            have hone := isRowB_one hrow
            have hc1 := cell_new2 (w3.alloc (.cells #[.int .i64 id, v] 43)) (.int .i64 id) v 43 (w3.heap.size + 1) hs3.symm
            have HC1 := hideP hc1
            have HON := hideP hone
            have HWS : Hid (w1.heap.size ≤ w3.heap.size) := Below.size HF3.out
            obtain ⟨ar, capr, rfl, _⟩ := hrow
            clear hrd hmv hls3 hoe3 hf2 hs3 hone hc1 HF3 HOE HLS HFR
            go_wp2_with (at_builtin; refine wpList_append_own _ rfl _ _ 22 rfl w1.heap.size 43 i0 (.agg #[.int .i64 0, .slice none 0 0]) 2 32 Try.underlying22 hi0 hz0 hz1 hz2 rfl (by decide) _ _ _ rfl HOW.out ⟨w3.heap.size + 1, 0, none⟩ 1 1 [.int .i64 id, .slice ar r.length capr] rfl rfl ?c1 ?c2 ?c3 ?c4 ?c5 ?_)
            case c1 => exact HC1.out
            case c2 =>
              intro u hu
              simp at hu
              rcases hu with rfl | rfl <;> rfl
            case c3 => unfold maxLen; omega
            case c4 => omega
            case c5 => have := HWS.out; simp; omega
            intro v' w5 hown' hgrow _
            have HN : Hid (Oe w1.heap.size v' (es ++ [((id, r), .slice ar r.length capr)]) w5) := Oe.snoc HOE4.out (p := ((id, r), .slice ar r.length capr)) HR4.out (by rw [hel]; exact hown') hgrow
            have hlst : LF.lst 0 ((es ++ [(((id, r) : LF.En), Value.slice ar r.length capr)]).map (·.1)) = id := by
              rw [List.map_append]
              exact LF.lst_snoc _ _ _
            have HL7 : Hid (LsAt w5 w1.heap.size (LF.lst 0 ((es ++ [(((id, r) : LF.En), Value.slice ar r.length capr)]).map (·.1)))) := by
              rw [hlst]
              exact ls_grown (T := 43) (by decide) HBK.out hgrow HL4.out
            have HF6 : Hid (Fr w1 w5) := Below.grown HF4.out hgrow (by have := HWS.out; simp; omega) (fun k hk => (HOW.out.lt k hk).1)
            have HA2 : Hid (LF.ens n 0 (s.data.toList.drop k) = LF.pre ((es ++ [(((id, r) : LF.En), Value.slice ar r.length capr)]).map (·.1)) (LF.ens (n - (i + 1)) (LF.lst 0 ((es ++ [(((id, r) : LF.En), Value.slice ar r.length capr)]).map (·.1))) (S.extract m S.size).data.toList)) := by
              unfold Hid
              rw [hlst, HEXT.out, List.map_append, show n - (i + 1) = n - i - 1 by omega]
              exact HENS.out
            have HEL : Hid ((es ++ [(((id, r) : LF.En), Value.slice ar r.length capr)]).length = i + 1) := by
              unfold Hid
              rw [List.length_append, hel]
              rfl
            clear hown' hgrow HOW HBK HL4 HF4 hlst HOE4 HR4 HENS
            go_wp2_with fail
            go_roundw
            case rel => exact ⟨i + 1, _, _, by go_num, rfl, by omega, HEL.out, HN.out, HL7.out, HA2.out, HXS2.out, HF6.out⟩
            case measure => simp [intOf]; omega
        · obtain rfl : i = n := by omega
          rw [Nat.sub_self] at hens
          have hfin : LF.fin (LF.ens i 0 (s.data.toList.drop k)) = if S.data.toList = [] then .ok (es.map (·.1)) else .error 1 := by
            rw [hens]
            unfold LF.ens LF.pre LF.fin
            simp
          have HFIN := hideP hfin
          have HOE := hideP hoe
          have HFR := hideP hfr
          have hSl : S.data.toList.length = S.size := by rw [Array.length_toList]; rfl
          clear hens hfin hoe hls hfr
          by_cases hz : S.size = 0
          · obtain rfl : S = ⟨#[]⟩ := by
              have := (toList_nil S).2 hz
              rw [ByteArray.toList_eq] at this
              cases S
              simp_all
            clear hz hSl
            go_wp2_with fail
            go_ret2
            refine ⟨?_, HFR.out⟩
            unfold UnpAs
            rw [HX.out, HFIN.out]
            exact ⟨_, es, rfl, HOE.out, rfl⟩
          · have h1 : (S.toList == []) = false := by simp only [beq_eq_false_iff_ne, ne_eq, toList_nil]; exact hz
            have h2 : (S.toList != []) = true := by simp only [bne_iff_ne, ne_eq, toList_nil]; exact hz
            have h3 : ¬ S.toList = [] := by rw [toList_nil]; exact hz
            have HZ : Hid (¬ S.data.toList = []) := fun e => hz (by rw [← hSl, e]; rfl)
            clear hz hSl
            go_wp2_with fail
            go_ret2
            refine ⟨?_, HFR.out⟩
            unfold UnpAs
            rw [HX.out, HFIN.out, if_neg HZ.out]
            rfl
  · rw [if_neg he] at hnu
    obtain ⟨rfl, rfl⟩ := hbad he
    have hx := hideP (unp_bad hle hnu)
    have q1 : ((er : Int) != 0) = true := by simp; omega
    have q2 : ¬ ((er : Int) = 0) := by omega
    clear hnu hbad hD hrk hrn hle
    go_enter Try.func9, Try.ntmps9
    go_wp2_with fail
    refine (hrd _).mono ?_
    rintro _ w1 ⟨rfl, rfl⟩
    clear hrd
    go_wp2_with fail
    go_ret2
    refine ⟨?_, Fr.refl _⟩
    unfold UnpAs
    rw [hx.out]
    rfl
end Go.Proofs.Ythpcdhnaibpjnaa
