/-
  What SameTexts, SameWrites, SameOps, SameDisk and SameStore of the document's answers say.
-/
import Derived.Test.YtcgafodaohmcmaaDkK
namespace Go.Proofs.Ytcgafodaohmcmaa
open Go.ChangeShapes Go.WideShapes Go.ChangeAt Go.RowKit
set_option linter.unusedVariables false
set_option linter.unusedSimpArgs false
set_option maxRecDepth 100000
set_option maxHeartbeats 2000000

theorem sameTexts_any (v u : Value) (l m : List JN.B) (w : World) (hv : IsL cdP w v l) (hu : IsL cdP w u m) (hl : l.length ≤ 9223372036854775806) :
    Calls Try.prog 18 #[v, u] w fun e w' => (∃ r : Bool, e = .returned (.bool r) ∧ (l = m → r = true)) ∧ Fr w w' := by
  obtain ⟨a, cap, rfl, hcap, hcs⟩ := hv
  obtain ⟨a2, cap2, rfl, hcap2, hcs2⟩ := hu
  have HC := hideP hcs
  have HC2 := hideP hcs2
  clear hcs hcs2
  by_cases hlm : l.length = m.length
  · rw [← hlm]
    have HM := hideP hlm
    clear hlm
    go_enter Try.func18, Try.ntmps18
    go_wp2_with fail
    go_loopw [5] (fun iv wr => ∃ i : Nat, iv = .int .i64 i ∧ i ≤ l.length ∧ Fr w wr) (fun iv _ => l.length - (intOf iv).toNat)
    case atStart => exact ⟨0, rfl, by omega, Fr.refl _⟩
    case round =>
      obtain ⟨i, rfl, hi, hfr⟩ := hrel
      by_cases hlt : i < l.length
      · have hlt2 : i < m.length := by rw [← HM.out]; exact hlt
        obtain ⟨b, o, rfl, hb, hc⟩ : ∃ b o, a = some ⟨b, o, none⟩ ∧ b < w.heap.size ∧ At cdP w b o l := by
          rcases HC.out with h | h
          · subst h; simp at hlt
          · exact h
        obtain ⟨b2, o2, rfl, hb2, hc2⟩ : ∃ b o, a2 = some ⟨b, o, none⟩ ∧ b < w.heap.size ∧ At cdP w b o m := by
          rcases HC2.out with h | h
          · subst h; simp at hlt2
          · exact h
        have c0 := (hc.fr hb hfr).pg i hlt
        have d0 := (hc2.fr hb2 hfr).pg i hlt2
        have HQ : Hid (l = m → l[i] = m[i]) := fun e => by subst e; rfl
        generalize l[i] = x at c0 HQ
        generalize m[i] = y at d0 HQ
        have hlt' : (i : Int) < (l.length : Int) := by omega
        have HF := hideP hfr
        clear hc hc2 hfr hlt2
        by_cases hxy : x = y
        · subst hxy
          go_wp2_with fail
          go_region
          go_wp2_with fail
          go_roundw
          case rel => exact ⟨i + 1, by go_num, by omega, Fr.drew HF.out⟩
          case measure => simp [intOf]; omega
        · have n1 : ¬ x.toList = y.toList := by
            intro e
            rw [ByteArray.toList_eq, ByteArray.toList_eq] at e
            exact hxy (ByteArray.ext (Array.toList_inj.1 e))
          have n2 : (x.toList == y.toList) = false := by simpa using n1
          have HN := hideP hxy
          clear hxy
          go_wp2_with fail
          go_region
          go_wp2_with fail
          go_ret
          exact ⟨⟨_, rfl, fun e => absurd (HQ.out e) HN.out⟩, Fr.drew HF.out⟩
      · go_wp2_with fail
        go_ret
        exact ⟨⟨_, rfl, fun _ => rfl⟩, hfr⟩
  · have hn1 : ((l.length : Int) != (m.length : Int)) = true := by simp; omega
    have hn2 : ¬ (l.length : Int) = (m.length : Int) := by omega
    have HM := hideP hlm
    clear hlm
    go_enter Try.func18, Try.ntmps18
    go_wp2_with fail
    go_ret
    exact ⟨⟨_, rfl, fun e => absurd (congrArg List.length e) HM.out⟩, Fr.refl _⟩

theorem sameWrites_eq (v u : Value) (l : List JN.W) (w : World) (hv : IsL cdW w v l) (hu : IsL cdW w u l) (hl : l.length ≤ 9223372036854775806) :
    Calls Try.prog 19 #[v, u] w fun e w' => e = .returned (.bool true) ∧ Fr w w' := by
  obtain ⟨a, cap, rfl, hcap, hcs⟩ := hv
  obtain ⟨a2, cap2, rfl, hcap2, hcs2⟩ := hu
  have HC := hideP hcs
  have HC2 := hideP hcs2
  clear hcs hcs2
  go_enter Try.func19, Try.ntmps19
  go_wp2_with fail
  go_loopw [5] (fun iv wr => ∃ i : Nat, iv = .int .i64 i ∧ i ≤ l.length ∧ Fr w wr) (fun iv _ => l.length - (intOf iv).toNat)
  case atStart => exact ⟨0, rfl, by omega, Fr.refl _⟩
  case round =>
    obtain ⟨i, rfl, hi, hfr⟩ := hrel
    by_cases hlt : i < l.length
    · obtain ⟨b, o, rfl, hb, hc⟩ : ∃ b o, a = some ⟨b, o, none⟩ ∧ b < w.heap.size ∧ At cdW w b o l := by
        rcases HC.out with h | h
        · subst h; simp at hlt
        · exact h
      obtain ⟨b2, o2, rfl, hb2, hc2⟩ : ∃ b o, a2 = some ⟨b, o, none⟩ ∧ b < w.heap.size ∧ At cdW w b o l := by
        rcases HC2.out with h | h
        · subst h; simp at hlt
        · exact h
      obtain ⟨c0, c1⟩ := (hc.fr hb hfr).wr i hlt
      obtain ⟨d0, d1⟩ := (hc2.fr hb2 hfr).wr i hlt
      generalize l[i] = x at c0 c1 d0 d1
      obtain ⟨n, s⟩ := x
      simp only at c0 c1 d0 d1
      have hlt' : (i : Int) < (l.length : Int) := by omega
      have HF := hideP hfr
      clear hc hc2 hfr
      go_wp2_with fail
      go_region
      go_wp2_with fail
      go_roundw
      case rel => exact ⟨i + 1, by go_num, by omega, Fr.drew HF.out⟩
      case measure => simp [intOf]; omega
    · obtain rfl : i = l.length := by omega
      go_wp2_with fail
      go_ret
      exact ⟨rfl, hfr⟩

theorem sameDisk_eq (p q p2 q2 : Value) (d : JN.D) (w : World) (h : IsD w p q d) (h2 : IsD w p2 q2 d) (hl : d.pg.length ≤ 9223372036854775806) (hl2 : d.wt.length ≤ 9223372036854775806) :
    Calls Try.prog 9 #[.agg #[p, q], .agg #[p2, q2]] w fun e w' => e = .returned (.bool true) ∧ Fr w w' := by
  have c1 := fun W (f : Fr w W) => sameTexts_any p p2 d.pg d.pg W (h.1.fr f) (h2.1.fr f) hl
  have c2 := fun W (f : Fr w W) => sameWrites_eq q q2 d.wt W (h.2.fr f) (h2.2.fr f) hl2
  clear h h2
  go_enter Try.func9, Try.ntmps9
  go_wp2_with fail
  refine (c1 _ (((Fr.refl w).alloc _).alloc _)).mono ?_
  rintro _ w1 ⟨⟨r, rfl, hr⟩, f1⟩
  obtain rfl : r = true := by first | exact hr rfl | exact hr trivial
  obtain ⟨k0, k1, _, _⟩ := ((Blk.new w #[p, q] 25).old (.cells #[p2, q2] 25)).fr f1 |>.two
  have b1 := (Blk.new (w.alloc (.cells #[p, q] 25)) #[p2, q2] 25).fr f1
  rw [World.size_alloc] at b1
  obtain ⟨k2, k3, _, _⟩ := b1.two
  have HF : Hid (Fr w w1) := (((Fr.refl w).alloc _).alloc _).trans f1
  clear b1 f1 hr c1
  go_wp2_with fail
  refine (c2 _ HF.out).mono ?_
  rintro _ w2 ⟨rfl, f2⟩
  go_wp2_with fail
  go_ret
  exact ⟨rfl, HF.out.trans f2⟩
end Go.Proofs.Ytcgafodaohmcmaa
