/-
  Lex.
-/
import Derived.Test.YtoagobpkenfbkaaGreatDoorLxX
namespace Go.Proofs.YtoagobpkenfbkaaGreatDoor
open Go.ChangeShapes Go.WideShapes Go.ChangeAt Go.RowKit Go.Shelf
set_option linter.unusedVariables false
set_option linter.unusedSimpArgs false

/-- what Lex answers -/
def LexIs (B : Nat) (X : LX.Told) (e : Ending) (w' : World) : Prop := match X with
  | .ok ps => ∃ v, e = .returned (.tuple #[v, .int .i64 0, .int .i64 0]) ∧ Ot B v ps w'
  | .error (k, c) => e = .returned (.tuple #[.slice none 0 0, .int .i64 k, .int .i64 c])

theorem rd_err {r : VS.Rd} {k : Int} {n : Nat} {e : Nat} (h : litR k n r = .error e) : e ≠ 0 := by
  unfold litR at h
  split at h
  · cases h
  · cases h; assumption
theorem num_err {r : VS.Rd} {n : Nat} {e : Nat} (h : numR n r = .error e) : e ≠ 0 := by
  unfold numR at h
  split at h
  · cases h
  · cases h; assumption
theorem sgn_err {l : List UInt8} {e : Nat} (h : LX.sign l = .error e) : e ≠ 0 := by
  unfold LX.sign at h
  split at h
  · cases h
  · cases h; decide
theorem number_err {l : List UInt8} {e : Nat} (h : LX.number l = .error e) : e ≠ 0 := by
  unfold LX.number at h
  split at h
  · split at h
    · cases h; decide
    · exact num_err h
  · exact num_err h
theorem first_err {l : List UInt8} {e : Nat} (h : LX.first l = .error e) : e ≠ 0 := by
  unfold LX.first at h
  split at h
  · cases h; decide
  · split at h
    · exact rd_err (k := 3) h
    · split at h
      · exact rd_err (k := 4) h
      · split at h
        · unfold LX.word at h
          split at h
          · cases h; decide
          · cases h
        · split at h
          · exact number_err h
          · exact sgn_err h

set_option maxRecDepth 100000 in
set_option maxHeartbeats 4000000 in
theorem lex_any (s : ByteArray) (w : World) (hs : s.size ≤ 140737488355327) (hT : Tb w) :
    Calls Tryz.prog 9 #[.string s] w fun e w' => LexIs w.heap.size (LX.lex s.data.toList) e w' ∧ Fr w w' := by
  have hlen := dlenx s
  by_cases h300 : 300 < s.size
  · have HX : Hid _ := LX.lex_long (l := s.data.toList) (by omega)
    generalize LX.lex s.data.toList = X at *
    have h3 : (300 : Int) < (s.size : Int) := by omega
    clear h300 hlen
    go_enter Tryz.func9, Tryz.ntmps9
    go_wp2_with fail
    go_ret3
    exact ⟨by rw [HX.out]; rfl, Fr.refl _⟩
  · have hX := LX.lex_go (l := s.data.toList) (by omega)
    have hA := LX.At.start s.data.toList
    rw [← hX] at hA
    generalize LX.lex s.data.toList = X at *
    have h3 : (s.size : Int) ≤ 300 := by omega
    have h4 : (300 < (s.size : Int)) = False := by simp; omega
    have c0 := between_any s w hs
    generalize LX.sk false s.data.toList = k0 at *
    have HA : Hid _ := hA
    have HT : Hid _ := hT
    obtain ⟨i0, hi0, hz0, hz1, hz2⟩ := info_parts Tryz.infoTok
    clear h300 hX hA hT
    go_enter Tryz.func9, Tryz.ntmps9
    go_wp2_with fail
    refine c0.mono ?_
    rintro _ w1 ⟨rfl, rfl⟩
    clear c0
    go_wp2_with fail
    go_loopw [5, 6] (fun v iv wr => ∃ (k : Nat) (ps : List (Nat × LX.Tk)), iv = .int .i64 k ∧ LX.At s.data.toList X k ps ∧ Fr w1 wr ∧ Ot w1.heap.size v ps wr) (fun _ iv _ => s.size - (intOf iv).toNat)
    case atStart => exact ⟨k0, [], rfl, HA.out, Fr.refl _, World.ownsRow_nil _ _ _ _⟩
    case round =>
      obtain ⟨k, ps, rfl, hat, hfr, hown⟩ := hrel
      have hkl := hat.le
      have hrm := hat.room
      rw [hlen] at hkl
      obtain ⟨av, cap, rfl⟩ : ∃ a cap, u5 = .slice a ps.length cap := by
        rcases hown.2 with ⟨hv, h0⟩ | ⟨g, cap, cur, hv, _⟩
        · exact ⟨none, 0, by rw [hv, h0]⟩
        · exact ⟨_, cap, hv⟩
      by_cases hk : k < s.size
      · have hkZ : (k : Int) < (s.size : Int) := by omega
        have hkZ2 : (k : Int) ≤ (s.size : Int) := by omega
        by_cases hp : ps.length = 120
        · have HX : Hid _ := hat.many (by omega) hp
          have hp1 : (((ps.length : Nat) : Int) == 120) = true := by simp [hp]
          have hp2 : (ps.length : Int) = 120 := by omega
          have HF : Hid _ := hfr
          clear hat hown hfr hp HA HT hlen
          go_wp2_with fail
          go_ret3
          exact ⟨by rw [HX.out]; rfl, HF.out⟩
        · have hp1 : (((ps.length : Nat) : Int) == 120) = false := by simp; omega
          have hp2 : ¬ ((ps.length : Int) = 120) := by omega
          have c1 := first_any (s.extract k s.size) wr (by rw [ByteArray.size_extract]; omega) (by rw [ByteArray.size_extract]; omega) (HT.out.fr hfr)
          rw [restL s k hkl] at c1
          match hy : LX.first (s.data.toList.drop k) with
          | .error e =>
            rw [hy] at c1
            have HX : Hid _ := hat.bad (by omega) hp hy
            have hne : e ≠ 0 := first_err hy
            have e1 : ((e : Int) != 0) = true := by simp; omega
            have e2 : ¬ ((e : Int) = 0) := by omega
            unfold fsV tkV at c1
            simp only at c1
            clear hat hown hy hp HA HT hlen hne
            go_wp2_with fail
            refine c1.mono ?_
            rintro _ w2 ⟨rfl, f2⟩
            have HF : Hid (Fr w1 (w2.alloc (.cells #[.int .i64 0, .int .i64 0, .int .i64 0, .string ⟨#[]⟩] 29))) := hfr.trans (f2.trans ((Fr.refl _).alloc _))
            clear c1 f2 hfr
            go_wp2_with fail
            go_ret3
            exact ⟨by rw [HX.out]; rfl, HF.out⟩
          | .ok (t, n) =>
            rw [hy] at c1
            obtain ⟨hkn, hpos, hat2⟩ := hat.next (by omega) hp hy
            rw [hlen] at hkn
            have HAT : Hid _ := hat2
            have c2 := fun W => between_any (s.extract (k + n) s.size) W (by rw [ByteArray.size_extract]; omega)
            rw [restL s (k + n) hkn] at c2
            have hle2 := hat2.le
            rw [hlen] at hle2
            obtain ⟨tk, tn, ts⟩ := t
            unfold fsV tkV at c1
            simp only at c1
            clear hat hat2 hy HA hlen
            generalize LX.sk false (s.data.toList.drop (k + n)) = j at *
            go_wp2_with fail
            refine c1.mono ?_
            rintro _ w2 ⟨rfl, f2⟩
            have hown2 : Ot w1.heap.size (.slice av ps.length cap) ps w2 := Ot.keep hown (fun q h1 h2 => f2.block q h2)
            have hf2 : Fr w1 w2 := hfr.trans f2
            have HF2 : Hid (Below w1.heap.size w1 w2) := hf2
            have hsz2 : w1.heap.size ≤ w2.heap.size := hf2.size
            have hn1 : (0 : Int) ≤ (k : Int) + (n : Int) := by omega
            have hn2 : (k : Int) + (n : Int) ≤ (s.size : Int) := by omega
            have hw1 : IntKind.i64.wrap ((k : Int) + (n : Int)) = (k : Int) + (n : Int) := by simp only [IntKind.wrap]; simp [IntKind.min, IntKind.max, IntKind.signed, IntKind.bits]; omega
            have ht1 : ((k : Int) + (n : Int)).toNat = k + n := by omega
            have HT2 : Hid _ := HT.out
            clear c1 hown hfr f2 hf2 HT
            go_wp2_with (at_builtin; refine wpList_append_own _ rfl _ _ 22 rfl w1.heap.size 29 i0 (.agg #[.int .i64 0, .int .i64 0, .int .i64 0, .string ⟨#[]⟩]) 4 40 Tryz.underlying22 hi0 hz0 hz1 hz2 rfl (by decide) _ _ _ rfl ((hown2.alloc _).alloc _) ⟨w2.heap.size + 1, 0, none⟩ 1 1 [.int .i64 tk, .int .i64 (k : Int), .int .i64 tn, .string ⟨ts.toArray⟩] rfl rfl ?c1 ?c2 ?c3 ?c4 ?c5 ?_)
            case c1 =>
              intro j u hj
              match j, hj with
              | 0, hj => simp at hj; subst hj; simp [Addr.add]
              | 1, hj => simp at hj; subst hj; simp [Addr.add]
              | 2, hj => simp at hj; subst hj; simp [Addr.add]
              | 3, hj => simp at hj; subst hj; simp [Addr.add]
            case c2 => intro u hu; simp at hu; rcases hu with rfl | rfl | rfl | rfl <;> rfl
            case c3 => unfold maxLen; omega
            case c4 => omega
            case c5 => simp; omega
            intro v' w5 hown' hgrow _
            have HO5 : Hid (Ot w1.heap.size v' (ps ++ [(k, ⟨tk, tn, ts⟩)]) w5) := by
              unfold Hid Ot
              rw [toksV_snoc, List.length_append]
              exact hown'
            have hbe : Below w1.heap.size w2 w5 := (((Below.refl w1.heap.size w2).alloc hsz2 _).alloc (by simp; omega) _).grown hgrow (by simp; omega) (fun q hq => (hown2.lt q hq).1)
            have HF5 : Hid (Fr w1 w5) := Below.trans HF2.out hbe
            clear hown' hgrow hown2 hbe HF2
            go_wp2_with fail
            refine (c2 _).mono ?_
            rintro _ w6 ⟨rfl, rfl⟩
            clear c2
            go_wp2_with fail
            go_roundw
            case rel => exact ⟨k + n + j, ps ++ [(k, ⟨tk, tn, ts⟩)], by go_num, HAT.out, HF5.out, HO5.out⟩
            case measure => simp [intOf]; omega
      · have hkZ : ¬ (k : Int) < (s.size : Int) := by omega
        have hkB : decide ((k : Int) < (s.size : Int)) = false := by rw [decide_eq_false_iff_not]; omega
        have hkE : ((k : Int) < (s.size : Int)) = False := by simp; omega
        have hkG : (s.size : Int) ≤ (k : Int) := by omega
        have HX : Hid _ := hat.stop (by omega)
        have HF : Hid _ := hfr
        have HO : Hid _ := hown
        clear hat hown hfr HA HT hlen
        go_wp2_with fail
        go_ret3
        exact ⟨by rw [HX.out]; exact ⟨_, rfl, HO.out⟩, HF.out⟩
end Go.Proofs.YtoagobpkenfbkaaGreatDoor
