/-
  What the document's keyEnd answers: where the first value of a key ends.
-/
import Derived.Test.YtpalikdnpchdeaaUkM
import Derived.Test.YtpalikdnpchdeaaRefVb
namespace Go.Proofs.Ytpalikdnpchdeaa
open Go.ChangeShapes Go.WideShapes Go.ChangeAt Go.RowKit
set_option linter.unusedVariables false
set_option linter.unusedSimpArgs false
set_option maxRecDepth 100000

theorem drop_two (s : ByteArray) (i : Nat) (h : i + 1 < s.size) : s.data.toList.drop i = s[i] :: s[i + 1] :: s.data.toList.drop (i + 2) := by
  rw [List.drop_eq_getElem_cons (by simpa using (show i < s.data.size from Nat.lt_of_succ_lt h)), List.drop_eq_getElem_cons (by simpa using h)]
  rfl
theorem drop_end (s : ByteArray) (i : Nat) (h : ¬ i + 1 < s.size) : s.data.toList.drop i = [] ∨ ∃ b, s.data.toList.drop i = [b] := by
  have hl : (s.data.toList.drop i).length ≤ 1 := by
    rw [List.length_drop, Array.length_toList]
    have : s.data.size = s.size := rfl
    omega
  match s.data.toList.drop i, hl with
  | [], _ => exact Or.inl rfl
  | [b], _ => exact Or.inr ⟨b, rfl⟩
  | _ :: _ :: _, hl => simp at hl

set_option maxHeartbeats 1000000 in
theorem keyEnd_any (s : ByteArray) (w : World) (hpos : 0 < s.size) (hs : s.size ≤ 140737488355327) :
    Calls Try.prog 50 #[.string s] w fun e w' => e = .returned (.int .i64 (UK.ke s[0] (s.data.toList.drop 1))) ∧ w' = w := by
  have hpos' : (0 : Int) < (s.size : Int) := by omega
  have htl : (s.data.toList.drop 1).length = s.size - 1 := by rw [List.length_drop, Array.length_toList]; rfl
  obtain ⟨E, hE⟩ : ∃ E, UK.ke s[0] (s.data.toList.drop 1) = E := ⟨_, rfl⟩
  rw [hE]
  by_cases h5 : s[0].toNat = 5
  · have HE : Hid (E = 1) := hE.symm.trans (if_pos h5)
    have q : (s[0].toNat : Int) = 5 := by omega
    clear htl hE
    go_enter Try.func50, Try.ntmps50
    go_wp2_with fail
    go_ret
    exact ⟨ret_int HE.out.symm, rfl⟩
  · have q5 : ((s[0].toNat : Int) == 5) = false := by rw [beq_eq_false_iff_ne]; omega
    have p5 : ¬ (s[0].toNat : Int) = 5 := by omega
    by_cases h16 : s[0].toNat = 16
    · have q : (s[0].toNat : Int) = 16 := by omega
      by_cases h9 : s.size < 9
      · have HE : Hid (E = -1) := by unfold Hid; rw [← hE]; unfold UK.ke; rw [if_neg h5, if_pos h16, if_pos (by omega)]
        have q9 : (s.size : Int) < 9 := by omega
        clear htl hE
        go_enter Try.func50, Try.ntmps50
        go_wp2_with fail
        go_ret
        exact ⟨ret_int HE.out.symm, rfl⟩
      · have HE : Hid (E = 9) := by unfold Hid; rw [← hE]; unfold UK.ke; rw [if_neg h5, if_pos h16, if_neg (by omega)]
        have q9 : ¬ (s.size : Int) < 9 := by omega
        clear htl hE
        go_enter Try.func50, Try.ntmps50
        go_wp2_with fail
        go_ret
        exact ⟨ret_int HE.out.symm, rfl⟩
    · have q16 : ((s[0].toNat : Int) == 16) = false := by rw [beq_eq_false_iff_ne]; omega
      have p16 : ¬ (s[0].toNat : Int) = 16 := by omega
      by_cases hk : s[0].toNat = 32 ∨ s[0].toNat = 48
      · have HE : Hid (E = match UK.kz (s.data.toList.drop 1) [] with
          | none => -1
          | some (_, u) => ((s.data.toList.drop 1).length : Int) + 1 - u.length) := by
          unfold Hid; rw [← hE]; unfold UK.ke; rw [if_neg h5, if_neg h16, if_pos hk]; rfl
        rw [htl] at HE
        have hq : ((s[0].toNat : Int) != 32) = false ∨ (((s[0].toNat : Int) != 32) = true ∧ ((s[0].toNat : Int) != 48) = false ∧ (s[0].toNat : Int) = 48) := by
          rcases hk with h | h
          · left; simp [h]
          · right; simp [h]
        clear h5 h16 hk hE htl
        rcases hq with hq | ⟨hq, hq2, hq3⟩
        all_goals
          go_enter Try.func50, Try.ntmps50
          go_wp2_with fail
          go_loopw [3] (fun iv wr => ∃ (i : Nat) (acc : List UInt8), iv = .int .i64 i ∧ 1 ≤ i ∧ i ≤ s.size ∧ UK.kz (s.data.toList.drop 1) [] = UK.kz (s.data.toList.drop i) acc ∧ wr = w) (fun iv _ => s.size - (intOf iv).toNat)
          case atStart => exact ⟨1, [], rfl, Nat.le_refl _, hpos, rfl, rfl⟩
          case round =>
            obtain ⟨i, acc, rfl, hi1, hi, hz, rfl⟩ := hrel
            by_cases hlt : i + 1 < s.size
            · have hltZ : (i : Int) + 1 < (s.size : Int) := by omega
              have hltY : (i : Int) < (s.size : Int) := by omega
              have hd := drop_two s i hlt
              rw [hd] at hz
              by_cases h0 : s[i].toNat = 0
              · have z0 : (s[i].toNat : Int) = 0 := by omega
                by_cases h1 : s[i + 1].toNat = 1
                · have z1 : (s[i + 1].toNat : Int) = 1 := by omega
                  rw [UK.kz_end h0 h1] at hz
                  have HR : Hid (E = (i : Int) + 2) := by
                    unfold Hid
                    rw [HE.out, hz]
                    simp only
                    rw [List.length_drop, Array.length_toList]
                    have : s.data.size = s.size := rfl
                    omega
                  clear hz hd HE
                  go_wp2_with fail
                  go_ret
                  exact ⟨ret_int HR.out.symm, rfl⟩
                · have z1 : ((s[i + 1].toNat : Int) == 1) = false := by rw [beq_eq_false_iff_ne]; omega
                  have y1 : ¬ (s[i + 1].toNat : Int) = 1 := by omega
                  by_cases h255 : s[i + 1].toNat = 255
                  · have z2 : (s[i + 1].toNat : Int) = 255 := by omega
                    rw [UK.kz_zero h0 h255] at hz
                    have HZ : Hid _ := hz
                    clear hz hd HE
                    go_wp2_with fail
                    go_roundw
                    case rel => exact ⟨i + 2, _, by go_num, by omega, by omega, HZ.out, by first | rfl | trivial⟩
                    case measure => simp [intOf]; omega
                  · have z2 : ((s[i + 1].toNat : Int) != 255) = true := by simp; omega
                    have y2 : ¬ (s[i + 1].toNat : Int) = 255 := by omega
                    rw [UK.kz_bad h0 h255 h1] at hz
                    have HR : Hid (E = -1) := by unfold Hid; rw [HE.out, hz]
                    clear hz hd HE
                    go_wp2_with fail
                    go_ret
                    exact ⟨ret_int HR.out.symm, rfl⟩
              · have z0 : ((s[i].toNat : Int) == 0) = false := by rw [beq_eq_false_iff_ne]; omega
                have y0 : ¬ (s[i].toNat : Int) = 0 := by omega
                rw [UK.kz_step h0] at hz
                have hdd : s.data.toList.drop (i + 1) = s[i + 1] :: s.data.toList.drop (i + 2) := by
                  rw [List.drop_eq_getElem_cons (by simpa using hlt)]; rfl
                rw [← hdd] at hz
                have HZ : Hid _ := hz
                clear hz hd HE hdd
                go_wp2_with fail
                go_roundw
                case rel => exact ⟨i + 1, _, by go_num, by omega, by omega, HZ.out, by first | rfl | trivial⟩
                case measure => simp [intOf]; omega
            · have hltZ : ¬ (i : Int) + 1 < (s.size : Int) := by omega
              have HR : Hid (E = -1) := by
                unfold Hid
                rw [HE.out, hz]
                rcases drop_end s i hlt with h | ⟨b, h⟩
                · rw [h]; rfl
                · rw [h]; rfl
              clear hz HE
              go_wp2_with fail
              go_ret
              exact ⟨ret_int HR.out.symm, rfl⟩
      · have HE : Hid (E = -1) := by unfold Hid; rw [← hE]; unfold UK.ke; rw [if_neg h5, if_neg h16, if_neg hk]
        have q32 : ((s[0].toNat : Int) != 32) = true := by simp; omega
        have q48 : ((s[0].toNat : Int) != 48) = true := by simp; omega
        have p32 : ¬ (s[0].toNat : Int) = 32 := by omega
        have p48 : ¬ (s[0].toNat : Int) = 48 := by omega
        clear htl hE
        go_enter Try.func50, Try.ntmps50
        go_wp2_with fail
        go_ret
        exact ⟨ret_int HE.out.symm, rfl⟩
end Go.Proofs.Ytpalikdnpchdeaa
