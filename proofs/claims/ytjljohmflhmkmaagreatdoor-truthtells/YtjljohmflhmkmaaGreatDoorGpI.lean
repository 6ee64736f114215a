/-
  What belongs together: RefLen, LkMath2, LkEsc, RefPcs, LkCat, LkBytes, LkDp, RefMt.
-/
import Derived.Test.YtjljohmflhmkmaaGreatDoorCtQ
import Derived.Test.YtjljohmflhmkmaaGreatDoorGpC
namespace Go.Proofs.YtjljohmflhmkmaaGreatDoor
open Go.ChangeShapes Go.WideShapes Go.ChangeAt Go.RowKit Go.Shelf
set_option linter.unusedVariables false
set_option linter.unusedSimpArgs false

theorem kin_out (S : ByteArray) (i : Int) (a b : Nat) (h0 : 0 ≤ i) (h : ¬ i < (S.size : Int)) : LK.inr S.data.toList i.toNat a b = false := by
  unfold LK.inr
  rw [List.getElem?_eq_none]
  rw [Array.length_toList]
  have e : S.data.size = S.size := rfl
  omega
theorem kin_at (S : ByteArray) (k : Nat) (lo hi : Int) (h1 : 0 ≤ lo) (h2 : 0 ≤ hi) (h : k < S.size) : LK.inr S.data.toList k lo.toNat hi.toNat = (decide (lo ≤ (S[k].toNat : Int)) && decide ((S[k].toNat : Int) ≤ hi)) := by
  unfold LK.inr
  rw [byte_at S k h]
  show (decide (lo.toNat ≤ S[k].toNat) && decide (S[k].toNat ≤ hi.toNat)) = _
  congr 1
  · exact decide_eq_decide.2 (by omega)
  · exact decide_eq_decide.2 (by omega)

theorem kin_any (S : ByteArray) (i lo hi : Int) (h0 : 0 ≤ i) (h1 : 0 ≤ lo) (h2 : 0 ≤ hi) (w : World) :
    Calls Tryz.prog 93 #[.string S, .int .i64 i, .int .i64 lo, .int .i64 hi] w fun e w' => e = .returned (.bool (LK.inr S.data.toList i.toNat lo.toNat hi.toNat)) ∧ w' = w := by
  refine in_core S i lo hi _ w ?_
  by_cases h : i < (S.size : Int)
  · have hk : i.toNat < S.size := by omega
    exact Or.inr ⟨i.toNat, hk, by omega, kin_at S i.toNat lo hi h1 h2 hk⟩
  · exact Or.inl ⟨h, kin_out S i _ _ h0 h⟩
/-- of eight kinds of first bytes it is one, or none -/
theorem lead_cases (l : LK.Bs) : (LK.inr l 0 194 223 = false ∧ LK.inr l 0 224 224 = false ∧ LK.inr l 0 225 236 = false ∧ LK.inr l 0 237 237 = false ∧ LK.inr l 0 238 239 = false ∧ LK.inr l 0 240 240 = false ∧ LK.inr l 0 241 243 = false ∧ LK.inr l 0 244 244 = false) ∨ (LK.inr l 0 194 223 = true ∧ LK.inr l 0 224 224 = false ∧ LK.inr l 0 225 236 = false ∧ LK.inr l 0 237 237 = false ∧ LK.inr l 0 238 239 = false ∧ LK.inr l 0 240 240 = false ∧ LK.inr l 0 241 243 = false ∧ LK.inr l 0 244 244 = false) ∨ (LK.inr l 0 194 223 = false ∧ LK.inr l 0 224 224 = true ∧ LK.inr l 0 225 236 = false ∧ LK.inr l 0 237 237 = false ∧ LK.inr l 0 238 239 = false ∧ LK.inr l 0 240 240 = false ∧ LK.inr l 0 241 243 = false ∧ LK.inr l 0 244 244 = false) ∨ (LK.inr l 0 194 223 = false ∧ LK.inr l 0 224 224 = false ∧ LK.inr l 0 225 236 = true ∧ LK.inr l 0 237 237 = false ∧ LK.inr l 0 238 239 = false ∧ LK.inr l 0 240 240 = false ∧ LK.inr l 0 241 243 = false ∧ LK.inr l 0 244 244 = false) ∨ (LK.inr l 0 194 223 = false ∧ LK.inr l 0 224 224 = false ∧ LK.inr l 0 225 236 = false ∧ LK.inr l 0 237 237 = true ∧ LK.inr l 0 238 239 = false ∧ LK.inr l 0 240 240 = false ∧ LK.inr l 0 241 243 = false ∧ LK.inr l 0 244 244 = false) ∨ (LK.inr l 0 194 223 = false ∧ LK.inr l 0 224 224 = false ∧ LK.inr l 0 225 236 = false ∧ LK.inr l 0 237 237 = false ∧ LK.inr l 0 238 239 = true ∧ LK.inr l 0 240 240 = false ∧ LK.inr l 0 241 243 = false ∧ LK.inr l 0 244 244 = false) ∨ (LK.inr l 0 194 223 = false ∧ LK.inr l 0 224 224 = false ∧ LK.inr l 0 225 236 = false ∧ LK.inr l 0 237 237 = false ∧ LK.inr l 0 238 239 = false ∧ LK.inr l 0 240 240 = true ∧ LK.inr l 0 241 243 = false ∧ LK.inr l 0 244 244 = false) ∨ (LK.inr l 0 194 223 = false ∧ LK.inr l 0 224 224 = false ∧ LK.inr l 0 225 236 = false ∧ LK.inr l 0 237 237 = false ∧ LK.inr l 0 238 239 = false ∧ LK.inr l 0 240 240 = false ∧ LK.inr l 0 241 243 = true ∧ LK.inr l 0 244 244 = false) ∨ (LK.inr l 0 194 223 = false ∧ LK.inr l 0 224 224 = false ∧ LK.inr l 0 225 236 = false ∧ LK.inr l 0 237 237 = false ∧ LK.inr l 0 238 239 = false ∧ LK.inr l 0 240 240 = false ∧ LK.inr l 0 241 243 = false ∧ LK.inr l 0 244 244 = true) := by
  cases l with
  | nil => exact Or.inl ⟨rfl, rfl, rfl, rfl, rfl, rfl, rfl, rfl⟩
  | cons b l =>
    have key : ∀ lo hi, LK.inr (b :: l) 0 lo hi = (decide (lo ≤ b.toNat) && decide (b.toNat ≤ hi)) := fun _ _ => rfl
    simp only [key, Bool.and_eq_true, Bool.and_eq_false_iff, decide_eq_true_eq, decide_eq_false_iff_not]
    omega

set_option maxRecDepth 100000 in
set_option maxHeartbeats 4000000 in
theorem letterLen_any (S : ByteArray) (w : World) : Calls Tryz.prog 133 #[.string S] w fun e w' => e = .returned (.int .i64 (LK.sz S.data.toList)) ∧ w' = w := by
  obtain ⟨n, hn⟩ : ∃ n, LK.sz S.data.toList = n := ⟨_, rfl⟩
  rw [hn]
  unfold LK.sz LK.sec3 LK.sec4 at hn
  have HN : Hid _ := hn
  clear hn
  rcases lead_cases S.data.toList with ⟨h0, h1, h2, h3, h4, h5, h6, h7⟩ | ⟨h0, h1, h2, h3, h4, h5, h6, h7⟩ | ⟨h0, h1, h2, h3, h4, h5, h6, h7⟩ | ⟨h0, h1, h2, h3, h4, h5, h6, h7⟩ | ⟨h0, h1, h2, h3, h4, h5, h6, h7⟩ | ⟨h0, h1, h2, h3, h4, h5, h6, h7⟩ | ⟨h0, h1, h2, h3, h4, h5, h6, h7⟩ | ⟨h0, h1, h2, h3, h4, h5, h6, h7⟩ | ⟨h0, h1, h2, h3, h4, h5, h6, h7⟩
  · obtain rfl : n = 1 := by rw [← HN.out]; simp [h0, h1, h2, h3, h4, h5, h6, h7]
    clear HN
    go_enter Tryz.func133, Tryz.ntmps133
    go_wp2_with (go_at_call 93; refine (kin_any S _ _ _ (by decide) (by decide) (by decide) _).mono ?_; rintro _ _ ⟨rfl, rfl⟩)
    go_ret
    exact ⟨rfl, rfl⟩
  · cases s1 : LK.inr S.data.toList 1 128 191 with
    | false =>
      obtain rfl : n = 1 := by rw [← HN.out]; simp [h0, h1, h2, h3, h4, h5, h6, h7, s1]
      clear HN
      go_enter Tryz.func133, Tryz.ntmps133
      go_wp2_with (go_at_call 93; refine (kin_any S _ _ _ (by decide) (by decide) (by decide) _).mono ?_; rintro _ _ ⟨rfl, rfl⟩)
      go_ret
      exact ⟨rfl, rfl⟩
    | true =>
      obtain rfl : n = 2 := by rw [← HN.out]; simp [h0, h1, h2, h3, h4, h5, h6, h7, s1]
      clear HN
      go_enter Tryz.func133, Tryz.ntmps133
      go_wp2_with (go_at_call 93; refine (kin_any S _ _ _ (by decide) (by decide) (by decide) _).mono ?_; rintro _ _ ⟨rfl, rfl⟩)
      go_ret
      exact ⟨rfl, rfl⟩
  · cases s1 : LK.inr S.data.toList 1 160 191 with
    | false =>
      obtain rfl : n = 1 := by rw [← HN.out]; simp [h0, h1, h2, h3, h4, h5, h6, h7, s1]
      clear HN
      go_enter Tryz.func133, Tryz.ntmps133
      go_wp2_with (go_at_call 93; refine (kin_any S _ _ _ (by decide) (by decide) (by decide) _).mono ?_; rintro _ _ ⟨rfl, rfl⟩)
      go_ret
      exact ⟨rfl, rfl⟩
    | true =>
      cases s2 : LK.inr S.data.toList 2 128 191 with
      | false =>
        obtain rfl : n = 1 := by rw [← HN.out]; simp [h0, h1, h2, h3, h4, h5, h6, h7, s1, s2]
        clear HN
        go_enter Tryz.func133, Tryz.ntmps133
        go_wp2_with (go_at_call 93; refine (kin_any S _ _ _ (by decide) (by decide) (by decide) _).mono ?_; rintro _ _ ⟨rfl, rfl⟩)
        go_ret
        exact ⟨rfl, rfl⟩
      | true =>
        obtain rfl : n = 3 := by rw [← HN.out]; simp [h0, h1, h2, h3, h4, h5, h6, h7, s1, s2]
        clear HN
        go_enter Tryz.func133, Tryz.ntmps133
        go_wp2_with (go_at_call 93; refine (kin_any S _ _ _ (by decide) (by decide) (by decide) _).mono ?_; rintro _ _ ⟨rfl, rfl⟩)
        go_ret
        exact ⟨rfl, rfl⟩
  · cases s1 : LK.inr S.data.toList 1 128 191 with
    | false =>
      obtain rfl : n = 1 := by rw [← HN.out]; simp [h0, h1, h2, h3, h4, h5, h6, h7, s1]
      clear HN
      go_enter Tryz.func133, Tryz.ntmps133
      go_wp2_with (go_at_call 93; refine (kin_any S _ _ _ (by decide) (by decide) (by decide) _).mono ?_; rintro _ _ ⟨rfl, rfl⟩)
      go_ret
      exact ⟨rfl, rfl⟩
    | true =>
      cases s2 : LK.inr S.data.toList 2 128 191 with
      | false =>
        obtain rfl : n = 1 := by rw [← HN.out]; simp [h0, h1, h2, h3, h4, h5, h6, h7, s1, s2]
        clear HN
        go_enter Tryz.func133, Tryz.ntmps133
        go_wp2_with (go_at_call 93; refine (kin_any S _ _ _ (by decide) (by decide) (by decide) _).mono ?_; rintro _ _ ⟨rfl, rfl⟩)
        go_ret
        exact ⟨rfl, rfl⟩
      | true =>
        obtain rfl : n = 3 := by rw [← HN.out]; simp [h0, h1, h2, h3, h4, h5, h6, h7, s1, s2]
        clear HN
        go_enter Tryz.func133, Tryz.ntmps133
        go_wp2_with (go_at_call 93; refine (kin_any S _ _ _ (by decide) (by decide) (by decide) _).mono ?_; rintro _ _ ⟨rfl, rfl⟩)
        go_ret
        exact ⟨rfl, rfl⟩
  · cases s1 : LK.inr S.data.toList 1 128 159 with
    | false =>
      obtain rfl : n = 1 := by rw [← HN.out]; simp [h0, h1, h2, h3, h4, h5, h6, h7, s1]
      clear HN
      go_enter Tryz.func133, Tryz.ntmps133
      go_wp2_with (go_at_call 93; refine (kin_any S _ _ _ (by decide) (by decide) (by decide) _).mono ?_; rintro _ _ ⟨rfl, rfl⟩)
      go_ret
      exact ⟨rfl, rfl⟩
    | true =>
      cases s2 : LK.inr S.data.toList 2 128 191 with
      | false =>
        obtain rfl : n = 1 := by rw [← HN.out]; simp [h0, h1, h2, h3, h4, h5, h6, h7, s1, s2]
        clear HN
        go_enter Tryz.func133, Tryz.ntmps133
        go_wp2_with (go_at_call 93; refine (kin_any S _ _ _ (by decide) (by decide) (by decide) _).mono ?_; rintro _ _ ⟨rfl, rfl⟩)
        go_ret
        exact ⟨rfl, rfl⟩
      | true =>
        obtain rfl : n = 3 := by rw [← HN.out]; simp [h0, h1, h2, h3, h4, h5, h6, h7, s1, s2]
        clear HN
        go_enter Tryz.func133, Tryz.ntmps133
        go_wp2_with (go_at_call 93; refine (kin_any S _ _ _ (by decide) (by decide) (by decide) _).mono ?_; rintro _ _ ⟨rfl, rfl⟩)
        go_ret
        exact ⟨rfl, rfl⟩
  · cases s1 : LK.inr S.data.toList 1 128 191 with
    | false =>
      obtain rfl : n = 1 := by rw [← HN.out]; simp [h0, h1, h2, h3, h4, h5, h6, h7, s1]
      clear HN
      go_enter Tryz.func133, Tryz.ntmps133
      go_wp2_with (go_at_call 93; refine (kin_any S _ _ _ (by decide) (by decide) (by decide) _).mono ?_; rintro _ _ ⟨rfl, rfl⟩)
      go_ret
      exact ⟨rfl, rfl⟩
    | true =>
      cases s2 : LK.inr S.data.toList 2 128 191 with
      | false =>
        obtain rfl : n = 1 := by rw [← HN.out]; simp [h0, h1, h2, h3, h4, h5, h6, h7, s1, s2]
        clear HN
        go_enter Tryz.func133, Tryz.ntmps133
        go_wp2_with (go_at_call 93; refine (kin_any S _ _ _ (by decide) (by decide) (by decide) _).mono ?_; rintro _ _ ⟨rfl, rfl⟩)
        go_ret
        exact ⟨rfl, rfl⟩
      | true =>
        obtain rfl : n = 3 := by rw [← HN.out]; simp [h0, h1, h2, h3, h4, h5, h6, h7, s1, s2]
        clear HN
        go_enter Tryz.func133, Tryz.ntmps133
        go_wp2_with (go_at_call 93; refine (kin_any S _ _ _ (by decide) (by decide) (by decide) _).mono ?_; rintro _ _ ⟨rfl, rfl⟩)
        go_ret
        exact ⟨rfl, rfl⟩
  · cases s1 : LK.inr S.data.toList 1 144 191 with
    | false =>
      obtain rfl : n = 1 := by rw [← HN.out]; simp [h0, h1, h2, h3, h4, h5, h6, h7, s1]
      clear HN
      go_enter Tryz.func133, Tryz.ntmps133
      go_wp2_with (go_at_call 93; refine (kin_any S _ _ _ (by decide) (by decide) (by decide) _).mono ?_; rintro _ _ ⟨rfl, rfl⟩)
      go_ret
      exact ⟨rfl, rfl⟩
    | true =>
      cases s2 : LK.inr S.data.toList 2 128 191 with
      | false =>
        obtain rfl : n = 1 := by rw [← HN.out]; simp [h0, h1, h2, h3, h4, h5, h6, h7, s1, s2]
        clear HN
        go_enter Tryz.func133, Tryz.ntmps133
        go_wp2_with (go_at_call 93; refine (kin_any S _ _ _ (by decide) (by decide) (by decide) _).mono ?_; rintro _ _ ⟨rfl, rfl⟩)
        go_ret
        exact ⟨rfl, rfl⟩
      | true =>
        cases s3 : LK.inr S.data.toList 3 128 191 with
        | false =>
          obtain rfl : n = 1 := by rw [← HN.out]; simp [h0, h1, h2, h3, h4, h5, h6, h7, s1, s2, s3]
          clear HN
          go_enter Tryz.func133, Tryz.ntmps133
          go_wp2_with (go_at_call 93; refine (kin_any S _ _ _ (by decide) (by decide) (by decide) _).mono ?_; rintro _ _ ⟨rfl, rfl⟩)
          go_ret
          exact ⟨rfl, rfl⟩
        | true =>
          obtain rfl : n = 4 := by rw [← HN.out]; simp [h0, h1, h2, h3, h4, h5, h6, h7, s1, s2, s3]
          clear HN
          go_enter Tryz.func133, Tryz.ntmps133
          go_wp2_with (go_at_call 93; refine (kin_any S _ _ _ (by decide) (by decide) (by decide) _).mono ?_; rintro _ _ ⟨rfl, rfl⟩)
          go_ret
          exact ⟨rfl, rfl⟩
  · cases s1 : LK.inr S.data.toList 1 128 191 with
    | false =>
      obtain rfl : n = 1 := by rw [← HN.out]; simp [h0, h1, h2, h3, h4, h5, h6, h7, s1]
      clear HN
      go_enter Tryz.func133, Tryz.ntmps133
      go_wp2_with (go_at_call 93; refine (kin_any S _ _ _ (by decide) (by decide) (by decide) _).mono ?_; rintro _ _ ⟨rfl, rfl⟩)
      go_ret
      exact ⟨rfl, rfl⟩
    | true =>
      cases s2 : LK.inr S.data.toList 2 128 191 with
      | false =>
        obtain rfl : n = 1 := by rw [← HN.out]; simp [h0, h1, h2, h3, h4, h5, h6, h7, s1, s2]
        clear HN
        go_enter Tryz.func133, Tryz.ntmps133
        go_wp2_with (go_at_call 93; refine (kin_any S _ _ _ (by decide) (by decide) (by decide) _).mono ?_; rintro _ _ ⟨rfl, rfl⟩)
        go_ret
        exact ⟨rfl, rfl⟩
      | true =>
        cases s3 : LK.inr S.data.toList 3 128 191 with
        | false =>
          obtain rfl : n = 1 := by rw [← HN.out]; simp [h0, h1, h2, h3, h4, h5, h6, h7, s1, s2, s3]
          clear HN
          go_enter Tryz.func133, Tryz.ntmps133
          go_wp2_with (go_at_call 93; refine (kin_any S _ _ _ (by decide) (by decide) (by decide) _).mono ?_; rintro _ _ ⟨rfl, rfl⟩)
          go_ret
          exact ⟨rfl, rfl⟩
        | true =>
          obtain rfl : n = 4 := by rw [← HN.out]; simp [h0, h1, h2, h3, h4, h5, h6, h7, s1, s2, s3]
          clear HN
          go_enter Tryz.func133, Tryz.ntmps133
          go_wp2_with (go_at_call 93; refine (kin_any S _ _ _ (by decide) (by decide) (by decide) _).mono ?_; rintro _ _ ⟨rfl, rfl⟩)
          go_ret
          exact ⟨rfl, rfl⟩
  · cases s1 : LK.inr S.data.toList 1 128 143 with
    | false =>
      obtain rfl : n = 1 := by rw [← HN.out]; simp [h0, h1, h2, h3, h4, h5, h6, h7, s1]
      clear HN
      go_enter Tryz.func133, Tryz.ntmps133
      go_wp2_with (go_at_call 93; refine (kin_any S _ _ _ (by decide) (by decide) (by decide) _).mono ?_; rintro _ _ ⟨rfl, rfl⟩)
      go_ret
      exact ⟨rfl, rfl⟩
    | true =>
      cases s2 : LK.inr S.data.toList 2 128 191 with
      | false =>
        obtain rfl : n = 1 := by rw [← HN.out]; simp [h0, h1, h2, h3, h4, h5, h6, h7, s1, s2]
        clear HN
        go_enter Tryz.func133, Tryz.ntmps133
        go_wp2_with (go_at_call 93; refine (kin_any S _ _ _ (by decide) (by decide) (by decide) _).mono ?_; rintro _ _ ⟨rfl, rfl⟩)
        go_ret
        exact ⟨rfl, rfl⟩
      | true =>
        cases s3 : LK.inr S.data.toList 3 128 191 with
        | false =>
          obtain rfl : n = 1 := by rw [← HN.out]; simp [h0, h1, h2, h3, h4, h5, h6, h7, s1, s2, s3]
          clear HN
          go_enter Tryz.func133, Tryz.ntmps133
          go_wp2_with (go_at_call 93; refine (kin_any S _ _ _ (by decide) (by decide) (by decide) _).mono ?_; rintro _ _ ⟨rfl, rfl⟩)
          go_ret
          exact ⟨rfl, rfl⟩
        | true =>
          obtain rfl : n = 4 := by rw [← HN.out]; simp [h0, h1, h2, h3, h4, h5, h6, h7, s1, s2, s3]
          clear HN
          go_enter Tryz.func133, Tryz.ntmps133
          go_wp2_with (go_at_call 93; refine (kin_any S _ _ _ (by decide) (by decide) (by decide) _).mono ?_; rintro _ _ ⟨rfl, rfl⟩)
          go_ret
          exact ⟨rfl, rfl⟩
end Go.Proofs.YtjljohmflhmkmaaGreatDoor
namespace Go.Proofs.YtjljohmflhmkmaaGreatDoor
namespace LK

theorem pc_four (l : Bs) : ∀ x ∈ pc l, x.length ≤ 4 := by
  refine pc_ind (Q := fun l => ∀ x ∈ pc l, x.length ≤ 4) (by simp [pc_nil]) (fun l hl ih x hx => ?_) l
  rw [pc_cons hl, List.mem_cons] at hx
  rcases hx with rfl | hx
  · have := sz_four l
    rw [List.length_take]; omega
  · exact ih x hx
theorem prs_mem : ∀ (l : List Bs) (e : Bool) (q : Part), q ∈ (prs e l).2 → q.2 ∈ l
  | [], e, q, h => by simp [prs] at h
  | x :: l, e, q, h => by
    unfold prs at h
    split at h
    · exact List.mem_cons_of_mem _ (prs_mem l true q h)
    · simp only [List.mem_cons] at h
      rcases h with rfl | h
      · exact List.mem_cons_self
      · exact List.mem_cons_of_mem _ (prs_mem l false q h)
theorem run_mem (l : List Bs) (q : Part) (h : q ∈ (run l).2) : q.2 ∈ l := by
  rw [run_eq] at h
  exact prs_mem l false q h

/-- the plain parts that a pattern begins by, put together -/
def pre (P : List Part) : Bs := (P.takeWhile fun q => q.1 == 97).flatMap fun q => q.2
def whole (P : List Part) : Bool := P.all fun q => q.1 == 97
/-- the escaped text of pieces -/
def esc (l : List Bs) : Bs := l.flatMap fun x => if kd x = 97 then x else 92 :: x
theorem esc_snoc (l : List Bs) (x : Bs) : esc (l ++ [x]) = esc l ++ (if kd x = 97 then x else 92 :: x) := by simp [esc]
theorem esc_len (l : List Bs) (h : ∀ x ∈ l, x.length ≤ 4) : (esc l).length ≤ 5 * l.length := by
  induction l with
  | nil => simp [esc]
  | cons x l ih =>
    have h1 := ih (fun y hy => h y (List.mem_cons_of_mem _ hy))
    have h2 := h x List.mem_cons_self
    have e : esc (x :: l) = (if kd x = 97 then x else 92 :: x) ++ esc l := by simp [esc]
    rw [e, List.length_append, List.length_cons]
    split
    · omega
    · simp only [List.length_cons]; omega
end LK
end Go.Proofs.YtjljohmflhmkmaaGreatDoor
namespace Go.Proofs.YtjljohmflhmkmaaGreatDoor
namespace LK

/-- a byte that goes on with a letter -/
def ct (b : UInt8) : Bool := decide (128 ≤ b.toNat) && decide (b.toNat ≤ 191)
def cr (l : Bs) : Bs := l.takeWhile ct

theorem inr_zero (b : UInt8) (l : Bs) (lo hi : Nat) : inr (b :: l) 0 lo hi = (decide (lo ≤ b.toNat) && decide (b.toNat ≤ hi)) := rfl
theorem inr_succ (b : UInt8) (l : Bs) (i lo hi : Nat) : inr (b :: l) (i + 1) lo hi = inr l i lo hi := by simp [inr]
theorem inr_s1 (b : UInt8) (l : Bs) (lo hi : Nat) : inr (b :: l) 1 lo hi = inr l 0 lo hi := inr_succ b l 0 lo hi
theorem inr_s2 (b : UInt8) (l : Bs) (lo hi : Nat) : inr (b :: l) 2 lo hi = inr l 1 lo hi := inr_succ b l 1 lo hi
theorem inr_s3 (b : UInt8) (l : Bs) (lo hi : Nat) : inr (b :: l) 3 lo hi = inr l 2 lo hi := inr_succ b l 2 lo hi
theorem inr_nil (i lo hi : Nat) : inr [] i lo hi = false := rfl
theorem inr_nct {b : UInt8} (h : ct b = false) (l : Bs) (lo hi : Nat) (h1 : 128 ≤ lo) (h2 : hi ≤ 191) : inr (b :: l) 0 lo hi = false := by
  rw [inr_zero]
  unfold ct at h
  simp only [Bool.and_eq_false_iff, decide_eq_false_iff_not] at h ⊢
  omega
/-- a test at the first byte behind sees the run of goers-on alone -/
theorem inr_cr0 (l : Bs) (lo hi : Nat) (h1 : 128 ≤ lo) (h2 : hi ≤ 191) : inr (cr l) 0 lo hi = inr l 0 lo hi := by
  cases l with
  | nil => rfl
  | cons b l =>
    cases hb : ct b with
    | true => simp [cr, hb, inr]
    | false =>
      rw [inr_nct hb l lo hi h1 h2]
      simp [cr, hb, inr]
theorem ct_of_inr {b : UInt8} {l : Bs} {lo hi : Nat} (h1 : 128 ≤ lo) (h2 : hi ≤ 191) (h : inr (b :: l) 0 lo hi = true) : ct b = true := by
  cases hb : ct b with
  | true => rfl
  | false => rw [inr_nct hb l lo hi h1 h2] at h; cases h
theorem inr_cr1 (l : Bs) (lo hi lo' hi' : Nat) (h1 : 128 ≤ lo) (h2 : hi ≤ 191) (h3 : 128 ≤ lo') (h4 : hi' ≤ 191) : (inr (cr l) 0 lo hi && inr (cr l) 1 lo' hi') = (inr l 0 lo hi && inr l 1 lo' hi') := by
  rw [inr_cr0 l lo hi h1 h2]
  cases l with
  | nil => rfl
  | cons b l =>
    cases h : inr (b :: l) 0 lo hi with
    | false => rfl
    | true =>
      have hb := ct_of_inr h1 h2 h
      have e : cr (b :: l) = b :: cr l := by simp [cr, hb]
      rw [e, inr_succ, inr_succ, inr_cr0 l lo' hi' h3 h4]
theorem inr_cr2 (l : Bs) (lo hi lo' hi' lo'' hi'' : Nat) (h1 : 128 ≤ lo) (h2 : hi ≤ 191) (h3 : 128 ≤ lo') (h4 : hi' ≤ 191) (h5 : 128 ≤ lo'') (h6 : hi'' ≤ 191) :
    (inr (cr l) 0 lo hi && (inr (cr l) 1 lo' hi' && inr (cr l) 2 lo'' hi'')) = (inr l 0 lo hi && (inr l 1 lo' hi' && inr l 2 lo'' hi'')) := by
  rw [inr_cr0 l lo hi h1 h2]
  cases l with
  | nil => rfl
  | cons b l =>
    cases h : inr (b :: l) 0 lo hi with
    | false => rfl
    | true =>
      have hb := ct_of_inr h1 h2 h
      have e : cr (b :: l) = b :: cr l := by simp [cr, hb]
      rw [e, inr_succ, inr_succ, inr_succ, inr_succ, inr_cr1 l lo' hi' lo'' hi'' h3 h4 h5 h6]
theorem sz_if (l : Bs) : sz l = if (inr l 0 194 223 && inr l 1 128 191) = true then 2
    else if ((inr l 0 224 224 && (inr l 1 160 191 && inr l 2 128 191)) || (inr l 0 225 236 && (inr l 1 128 191 && inr l 2 128 191)) || (inr l 0 237 237 && (inr l 1 128 159 && inr l 2 128 191)) || (inr l 0 238 239 && (inr l 1 128 191 && inr l 2 128 191))) = true then 3
    else if ((inr l 0 240 240 && (inr l 1 144 191 && (inr l 2 128 191 && inr l 3 128 191))) || (inr l 0 241 243 && (inr l 1 128 191 && (inr l 2 128 191 && inr l 3 128 191))) || (inr l 0 244 244 && (inr l 1 128 143 && (inr l 2 128 191 && inr l 3 128 191)))) = true then 4 else 1 := by
  unfold sz sec3 sec4
  simp only [Bool.and_eq_true, Bool.or_eq_true, or_and_right, and_assoc]
/-- how long a piece is hangs on its first byte and the goers-on behind it -/
theorem sz_cr (b : UInt8) (l : Bs) : sz (b :: cr l) = sz (b :: l) := by
  rw [sz_if, sz_if]
  simp only [inr_zero, inr_s1, inr_s2, inr_s3]
  rw [inr_cr2 l 144 191 128 191 128 191 (by decide) (by decide) (by decide) (by decide) (by decide) (by decide), inr_cr2 l 128 191 128 191 128 191 (by decide) (by decide) (by decide) (by decide) (by decide) (by decide), inr_cr2 l 128 143 128 191 128 191 (by decide) (by decide) (by decide) (by decide) (by decide) (by decide), inr_cr1 l 160 191 128 191 (by decide) (by decide) (by decide) (by decide), inr_cr1 l 128 191 128 191 (by decide) (by decide) (by decide) (by decide), inr_cr1 l 128 159 128 191 (by decide) (by decide) (by decide) (by decide), inr_cr0 l 128 191 (by decide) (by decide)]

/-- a byte that begins no letter is a piece by itself -/
theorem sz_low (b : UInt8) (l : Bs) (h : b.toNat < 194) : sz (b :: l) = 1 := by
  have hz : ∀ lo hi : Nat, 194 ≤ lo → inr (b :: l) 0 lo hi = false := fun lo hi hl => by
    rw [inr_zero]
    simp only [Bool.and_eq_false_iff, decide_eq_false_iff_not]
    omega
  rw [sz_if]
  rw [hz 194 223 (by decide), hz 224 224 (by decide), hz 225 236 (by decide), hz 237 237 (by decide), hz 238 239 (by decide), hz 240 240 (by decide), hz 241 243 (by decide), hz 244 244 (by decide)]
  rfl
theorem pc_low (b : UInt8) (l : Bs) (h : b.toNat < 194) : pc (b :: l) = [b] :: pc l := by
  rw [pc_cons (by simp), sz_low b l h]; rfl

theorem inr_app {l m : Bs} {k i : Nat} (hi : i < k) (hk : k ≤ l.length) (lo hi' : Nat) : inr (l.take k ++ m) i lo hi' = inr l i lo hi' := by
  unfold inr
  rw [List.getElem?_append_left (by rw [List.length_take]; omega), List.getElem?_take, if_pos hi]
/-- a letter stays one, whatever stands behind it -/
theorem sz_keep {l : Bs} (h : 2 ≤ sz l) (m : Bs) : sz (l.take (sz l) ++ m) = sz l := by
  have hne : l ≠ [] := by intro e; subst e; exact absurd h (by decide)
  have hk := sz_len hne
  have key : ∀ k, sz l = k → sz (l.take k ++ m) = k := by
    intro k hkk
    rw [hkk] at h hk
    have a0 : ∀ lo hi, inr (l.take k ++ m) 0 lo hi = inr l 0 lo hi := fun lo hi => inr_app (by omega) hk lo hi
    have a1 : ∀ lo hi, inr (l.take k ++ m) 1 lo hi = inr l 1 lo hi := fun lo hi => inr_app (by omega) hk lo hi
    unfold sz at hkk ⊢
    unfold sec3 sec4 at hkk ⊢
    simp only [a0, a1]
    split at hkk
    · rename_i h1; rw [if_pos h1]; exact hkk
    · rename_i h1
      rw [if_neg h1]
      split at hkk
      · rename_i h2
        have a2 : ∀ lo hi, inr (l.take k ++ m) 2 lo hi = inr l 2 lo hi := fun lo hi => inr_app (by omega) hk lo hi
        simp only [a2]
        rw [if_pos h2]; exact hkk
      · rename_i h2
        split at hkk
        · rename_i h3
          have a2 : ∀ lo hi, inr (l.take k ++ m) 2 lo hi = inr l 2 lo hi := fun lo hi => inr_app (by omega) hk lo hi
          have a3 : ∀ lo hi, inr (l.take k ++ m) 3 lo hi = inr l 3 lo hi := fun lo hi => inr_app (by omega) hk lo hi
          simp only [a2, a3]
          rw [if_neg h2, if_pos h3]; exact hkk
        · omega
  exact key _ rfl
theorem sz_alone (l : Bs) (h : l ≠ []) : sz (l.take (sz l)) = sz l := by
  by_cases h2 : 2 ≤ sz l
  · have := sz_keep h2 []
    rwa [List.append_nil] at this
  · have h1 := sz_pos l
    obtain ⟨e⟩ : Nonempty (sz l = 1) := ⟨by omega⟩
    rw [e]
    cases l with
    | nil => exact absurd rfl h
    | cons b l =>
      show sz [b] = 1
      rw [sz_if]
      simp [inr]
/-- a piece is its only piece -/
theorem pc_one {l x : Bs} (h : x ∈ pc l) : pc x = [x] ∧ 1 ≤ x.length := by
  have key : ∀ l, ∀ x ∈ pc l, pc x = [x] ∧ 1 ≤ x.length := by
    refine pc_ind (Q := fun l => ∀ x ∈ pc l, pc x = [x] ∧ 1 ≤ x.length) (by simp [pc_nil]) (fun l hl ih x hx => ?_)
    rw [pc_cons hl, List.mem_cons] at hx
    rcases hx with rfl | hx
    · have h1 := sz_pos l
      have h2 := sz_len hl
      have hlen : (l.take (sz l)).length = sz l := by rw [List.length_take]; omega
      have hne : l.take (sz l) ≠ [] := by intro e; rw [e] at hlen; simp at hlen; omega
      rw [pc_cons hne, sz_alone l hl]
      refine ⟨?_, by omega⟩
      rw [List.take_of_length_le (by omega), List.drop_eq_nil_of_le (by omega), pc_nil]
    · exact ih x hx
  exact key l x h

theorem kd_ne {x : Bs} (h : kd x ≠ 97) : ∃ b r, x = b :: r ∧ b.toNat < 128 := by
  cases x with
  | nil => exact absurd rfl h
  | cons b r =>
    refine ⟨b, r, rfl, ?_⟩
    unfold kd at h
    simp only at h
    split at h
    · omega
    · split at h
      · omega
      · split at h
        · omega
        · exact absurd rfl h
theorem esc_cons (x : Bs) (l : List Bs) : esc (x :: l) = (if kd x = 97 then x else 92 :: x) ++ esc l := by simp [esc]
/-- escapes leave the goers-on at the beginning as they are -/
theorem cr_esc (l : Bs) : cr (esc (pc l)) = cr l := by
  refine pc_ind (Q := fun l => cr (esc (pc l)) = cr l) rfl (fun l hl ih => ?_) l
  obtain ⟨b, r, rfl⟩ : ∃ b r, l = b :: r := by
    cases l with
    | nil => exact absurd rfl hl
    | cons b r => exact ⟨b, r, rfl⟩
  rw [pc_cons hl, esc_cons]
  cases hb : ct b with
  | true =>
    have hlow : b.toNat < 194 := by unfold ct at hb; simp at hb; omega
    have e1 : sz (b :: r) = 1 := sz_low b r hlow
    rw [e1] at ih ⊢
    have hk : kd ((b :: r).take 1) = 97 := by
      have hb2 : 128 ≤ b.toNat := by unfold ct at hb; simp at hb; omega
      show kd [b] = 97
      unfold kd
      simp only
      rw [if_neg (by omega), if_neg (by omega), if_neg (by omega)]
    rw [if_pos hk]
    show cr (b :: esc (pc r)) = cr (b :: r)
    have ih' : cr (esc (pc r)) = cr r := ih
    have e2 : cr (b :: esc (pc r)) = b :: cr (esc (pc r)) := by simp [cr, hb]
    have e3 : cr (b :: r) = b :: cr r := by simp [cr, hb]
    rw [e2, e3, ih']
  | false =>
    have e3 : cr (b :: r) = [] := by simp [cr, hb]
    rw [e3]
    obtain ⟨k, hk⟩ : ∃ k, sz (b :: r) = k + 1 := ⟨sz (b :: r) - 1, by have := sz_pos (b :: r); omega⟩
    rw [hk, List.take_succ_cons]
    split
    · simp [cr, hb]
    · have : ct 92 = false := by decide
      simp [cr, this]
/-- the pieces of an escaped text -/
theorem pc_esc (l : Bs) : pc (esc (pc l)) = (pc l).flatMap fun x => if kd x = 97 then [x] else [[92], x] := by
  refine pc_ind (Q := fun l => pc (esc (pc l)) = (pc l).flatMap fun x => if kd x = 97 then [x] else [[92], x]) rfl (fun l hl ih => ?_) l
  obtain ⟨E, hE⟩ : ∃ E, esc (pc (l.drop (sz l))) = E := ⟨_, rfl⟩
  have hcr : cr E = cr (l.drop (sz l)) := by rw [← hE]; exact cr_esc _
  rw [hE] at ih
  rw [pc_cons hl, esc_cons, hE, List.flatMap_cons, ← ih]
  by_cases hk : kd (l.take (sz l)) = 97
  · rw [if_pos hk, if_pos hk]
    have hlen : (l.take (sz l)).length = sz l := by have := sz_len hl; rw [List.length_take]; omega
    have hs : sz (l.take (sz l) ++ E) = sz l := by
      by_cases h2 : 2 ≤ sz l
      · exact sz_keep h2 E
      · have e1 : sz l = 1 := by have := sz_pos l; omega
        cases l with
        | nil => exact absurd rfl hl
        | cons b r =>
          rw [e1] at hcr ⊢
          show sz (b :: E) = 1
          rw [← sz_cr, hcr]
          show sz (b :: cr r) = 1
          rw [sz_cr, e1]
    have hne : l.take (sz l) ++ E ≠ [] := by
      intro e
      have := congrArg List.length e
      rw [List.length_append, hlen] at this
      have := sz_pos l
      simp at *
      omega
    rw [pc_cons hne, hs, List.take_append_of_le_length (by omega), List.take_of_length_le (by omega), List.drop_append_of_le_length (by omega), List.drop_eq_nil_of_le (by omega)]
    rfl
  · rw [if_neg hk, if_neg hk]
    obtain ⟨b, r, hx, hb⟩ := kd_ne hk
    have hl1 : ∃ r', l = b :: r' := by
      cases l with
      | nil => exact absurd rfl hl
      | cons c r' =>
        obtain ⟨k, hk⟩ : ∃ k, sz (c :: r') = k + 1 := ⟨sz (c :: r') - 1, by have := sz_pos (c :: r'); omega⟩
        rw [hk, List.take_succ_cons] at hx
        simp only [List.cons.injEq] at hx
        exact ⟨r', by rw [hx.1]⟩
    obtain ⟨r', rfl⟩ := hl1
    rw [sz_low b r' (by omega)]
    show pc (92 :: b :: E) = [92] :: [b] :: pc E
    rw [pc_low 92 _ (by decide), pc_low b _ (by omega)]
theorem prs_esc : ∀ l : List Bs, prs false (l.flatMap fun x => if kd x = 97 then [x] else [[92], x]) = (false, l.map fun x => ((97 : Int), x))
  | [] => rfl
  | x :: l => by
    rw [List.flatMap_cons, List.map_cons]
    by_cases hk : kd x = 97
    · rw [if_pos hk, List.cons_append, List.nil_append]
      unfold prs
      have e : kdE false x = 97 := by simp [kdE, hk]
      rw [e, if_neg (by decide), prs_esc l]
    · rw [if_neg hk, List.cons_append, List.cons_append, List.nil_append]
      unfold prs
      rw [if_pos (by decide)]
      unfold prs
      have e : kdE true x = 97 := by simp [kdE]
      rw [e, if_neg (by decide), prs_esc l]
theorem mt_plain : ∀ (xs t : List Bs), mt (xs.map fun x => ((97 : Int), x)) t = (xs == t)
  | [], [] => rfl
  | [], _ :: _ => rfl
  | x :: xs, [] => by rw [List.map_cons, mt_one_nil (by show (97 : Int) ≠ 37; decide)]; rfl
  | x :: xs, y :: t => by
    rw [List.map_cons, mt_one (by show (97 : Int) ≠ 37; decide), mt_plain xs t]
    show ((false || x == y) && _) = _
    rw [Bool.false_or]
    rfl
theorem pre_plain (xs : List Bs) : pre (xs.map fun x => ((97 : Int), x)) = xs.flatten ∧ whole (xs.map fun x => ((97 : Int), x)) = true := by
  induction xs with
  | nil => exact ⟨rfl, rfl⟩
  | cons x xs ih =>
    constructor
    · have e : pre ((x :: xs).map fun x => ((97 : Int), x)) = x ++ pre (xs.map fun x => ((97 : Int), x)) := by simp [pre]
      rw [e, ih.1]; rfl
    · have e : whole ((x :: xs).map fun x => ((97 : Int), x)) = whole (xs.map fun x => ((97 : Int), x)) := by simp [whole]
      rw [e, ih.2]
theorem esc_two (l : Bs) : (esc (pc l)).length ≤ 2 * l.length := by
  refine pc_ind (Q := fun l => (esc (pc l)).length ≤ 2 * l.length) (by simp [pc_nil, esc]) (fun l hl ih => ?_) l
  rw [pc_cons hl, esc_cons, List.length_append]
  have h1 := sz_len hl
  have h2 := sz_pos l
  rw [List.length_drop] at ih
  have h3 : (l.take (sz l)).length = sz l := by rw [List.length_take]; omega
  split
  · omega
  · rw [List.length_cons]; omega
theorem pc_inj {a b : Bs} (h : pc a = pc b) : a = b := by rw [← pc_flat a, ← pc_flat b, h]
end LK
end Go.Proofs.YtjljohmflhmkmaaGreatDoor
namespace Go.Proofs.YtjljohmflhmkmaaGreatDoor
open Go.ChangeShapes Go.WideShapes Go.ChangeAt Go.RowKit Go.Shelf
set_option linter.unusedVariables false

def szOf : Value → Nat
  | .string s => s.size
  | _ => 0

set_option maxRecDepth 100000 in
set_option maxHeartbeats 2000000 in
theorem piecesOf_any (S : ByteArray) (w : World) (hS : S.size ≤ 4194304) :
    Calls Tryz.prog 118 #[.string S] w fun e W' => ∃ v, e = .returned v ∧ IsTx W' v (LK.pc S.data.toList) ∧ Fr w W' := by
  obtain ⟨i0, hi, hz0, hz1, hz2⟩ := info_parts Tryz.infoStr
  go_enter Tryz.func118, Tryz.ntmps118
  go_wp2
  go_loopw [0, 3] (fun sv ov wr => ∃ (r : ByteArray) (pre : List LK.Bs), sv = .string r ∧ LK.pc S.data.toList = pre ++ LK.pc r.data.toList ∧ r.size + pre.length ≤ S.size ∧ wr.ownsRow w.heap.size 9 1 ov pre.length (strV pre) ∧ Below w.heap.size w wr) (fun sv _ _ => szOf sv)
  case atStart => exact ⟨S, [], rfl, rfl, by simp, World.ownsRow_nil _ _ _ _, Below.refl _ _⟩
  case round =>
    obtain ⟨r, pre, rfl, hx, hsz, hrow, hB⟩ := hrel
    have hrl : r.data.toList.length = r.size := by rw [Array.length_toList]; rfl
    by_cases h0 : 0 < r.size
    · have h0Z : (0 : Int) < (r.size : Int) := by omega
      have hne : r.data.toList ≠ [] := by intro e; rw [e] at hrl; simp at hrl; omega
      have hll := letterLen_any r wr
      obtain ⟨k, hk⟩ : ∃ k, LK.sz r.data.toList = k := ⟨_, rfl⟩
      rw [hk] at hll
      have hll2 := Calls.mono hll (R' := fun e w' => e = .returned (.int .i64 k) ∧ wr = w') (fun e w' h => ⟨h.1, h.2.symm⟩)
      clear hll
      have k1 : 1 ≤ k := by rw [← hk]; exact LK.sz_pos _
      have k2 : k ≤ r.size := by
        have := LK.sz_len hne
        rw [hk] at this
        omega
      have k2Z : (k : Int) ≤ (r.size : Int) := by omega
      have HX : Hid (LK.pc S.data.toList = (pre ++ [r.data.toList.take k]) ++ LK.pc (r.extract k r.size).data.toList) := by
        unfold Hid
        rw [hx, LK.pc_cons hne, hk, rest_list r k k2]
        simp
      have hext : r.extract 0 k = ⟨(r.data.toList.take k).toArray⟩ := by
        have := ext_list r 0 k (by omega)
        simpa using this
      have HE : Hid _ := hext
      have hes : (r.extract k r.size).size = r.size - k := by rw [ByteArray.size_extract]; omega
      have HES : Hid _ := hes
      have HL : Hid _ := hrl
      clear hx hext hk hne hes hrl
      go_wp2_with (first | (go_at_call 133; refine hll2.mono ?_; rintro _ _ ⟨rfl, rfl⟩) | (at_builtin; refine wpList_append_own _ rfl _ _ 23 rfl w.heap.size 9 i0 (.string ⟨#[]⟩) 1 16 Tryz.underlying23 hi hz0 hz1 hz2 rfl (by decide) _ _ _ rfl (hrow.alloc _) ⟨wr.heap.size, 0, none⟩ 1 1 [.string (r.extract 0 k)] rfl rfl ?c1 ?c2 ?c3 ?c4 ?c5 ?_))
      case c1 => exact cell_one_new _ _ _
      case c2 => intro u hu; simp at hu; subst hu; rfl
      case c3 => unfold maxLen; omega
      case c4 => omega
      case c5 => have := hB.size; simp; omega
      intro v' w2 hown' hgrow _
      obtain ⟨g', cap', rfl⟩ := ownsRow_succ hown'
      have hB2 : Below w.heap.size w w2 := (hB.alloc hB.size _).grown hgrow (by have := hB.size; simp; omega) (fun j ej => (hrow.lt j ej).1)
      have HO : Hid (w2.ownsRow w.heap.size 9 1 (.slice (some ⟨g', 0, none⟩) (pre.length + 1) cap') (pre ++ [r.data.toList.take k]).length (strV (pre ++ [r.data.toList.take k]))) := by
        unfold Hid
        rw [HE.out] at hown'
        rw [List.length_append, show strV (pre ++ [r.data.toList.take k]) = strV pre ++ [.string ⟨(r.data.toList.take k).toArray⟩] by simp [strV, sv]]
        exact hown'
      clear hown' hgrow hrow
      go_wp2
      go_roundw
      case rel => exact ⟨_, pre ++ [r.data.toList.take k], rfl, HX.out, by rw [HES.out]; simp; omega, HO.out, hB2⟩
      case measure =>
        show (r.extract k r.size).size < r.size
        rw [HES.out]; omega
    · have h0Z : ¬ (0 : Int) < (r.size : Int) := by omega
      have hr : r.data.toList = [] := List.eq_nil_of_length_eq_zero (by omega)
      have HX : Hid (LK.pc S.data.toList = pre) := by unfold Hid; rw [hx, hr, LK.pc_nil, List.append_nil]
      have HR : Hid _ := hrow
      clear hx hr hrow
      go_wp2
      go_ret
      exact ⟨_, rfl, by rw [HX.out]; exact tx_of_own HR.out, hB⟩

theorem kd_esc (x : LK.Bs) (hx : LK.pc x = [x]) : LK.kd x = 92 ↔ x = [92] := by
  constructor
  · intro h
    cases x with
    | nil => cases h
    | cons b r =>
      have hb : b.toNat = 92 := by
        unfold LK.kd at h
        simp only at h
        split at h
        · cases h
        · split at h
          · cases h
          · split at h
            · assumption
            · cases h
      have hb2 : b = 92 := UInt8.toNat_inj.1 hb
      subst hb2
      rw [LK.pc_low 92 r (by decide)] at hx
      simp only [List.cons.injEq] at hx
      rw [← hx.1.2]
  · intro h; subst h; rfl

/-- is an escape open behind pieces? -/
def opn (l : List LK.Bs) : Bool := l.foldl (fun o x => !o && x == [92]) false
theorem opn_snoc (l : List LK.Bs) (x : LK.Bs) : opn (l ++ [x]) = (!opn l && x == [92]) := by simp [opn]

set_option maxRecDepth 100000 in
set_option maxHeartbeats 2000000 in
theorem patternEnds_any (v : Value) (l : List LK.Bs) (w : World) (hv : IsTx w v l) (hl : l.length ≤ 9223372036854775807) :
    Calls Tryz.prog 117 #[v] w fun e w' => e = .returned (.bool (opn l)) ∧ w' = w := by
  obtain ⟨a, cap, rfl, hcap, hcu⟩ := hv
  have HU : Hid _ := hcu
  clear hcu
  go_enter Tryz.func117, Tryz.ntmps117
  go_wp2
  go_loop [3, 4] (fun ov iv => ∃ i : Nat, iv = .int .i64 i ∧ i ≤ l.length ∧ ov = .bool (opn (l.take i))) (fun _ iv => l.length - (intOf iv).toNat)
  case atStart => exact ⟨0, rfl, Nat.zero_le _, rfl⟩
  case round =>
    obtain ⟨i, rfl, hi, rfl⟩ := hrel
    by_cases hlt : i < l.length
    · have hltZ : (i : Int) < (l.length : Int) := by omega
      obtain ⟨x, hx⟩ : ∃ x, l[i]? = some x := ⟨l[i], List.getElem?_eq_getElem hlt⟩
      obtain ⟨b, rfl, hb, hc⟩ : ∃ b, a = some ⟨b, 0, none⟩ ∧ b < w.heap.size ∧ ∀ i x, l[i]? = some x → w.cell? ⟨b, i, none⟩ = some (sv x) := by
        rcases HU.out with h | h
        · rw [h] at hlt; simp at hlt
        · exact h
      have c0 := hc i x hx
      have hst : opn (l.take (i + 1)) = (!opn (l.take i) && x == [92]) := by
        rw [List.take_add_one, hx]
        exact opn_snoc _ _
      have HST : Hid _ := hst
      clear hst hc hx
      unfold sv at c0
      have hq : ((⟨x.toArray⟩ : ByteArray).toList == (⟨#[92]⟩ : ByteArray).toList) = (x == [92]) := by
        rw [Lib.toList_data, Lib.toList_data]
      have hm1 : l.length - (i + 1) < l.length - i := by omega
      generalize opn (l.take i) = o at HST ⊢
      generalize (⟨x.toArray⟩ : ByteArray) = sx at c0 hq
      generalize (x == [92]) = y at HST hq
      have q2 : ∀ t, (⟨#[92]⟩ : ByteArray).toList = t → (sx.toList == t) = y := fun t ht => by rw [← ht]; exact hq
      cases o
      · cases y
        · go_wp2
          go_round
          case rel => exact ⟨i + 1, by simp, hlt, by rw [HST.out]; rfl⟩
          case measure => simpa [intOf] using hm1
        · go_wp2
          go_round
          case rel => exact ⟨i + 1, by simp, hlt, by rw [HST.out]; rfl⟩
          case measure => simpa [intOf] using hm1
      · go_wp2
        go_round
        case rel => exact ⟨i + 1, by simp, hlt, by rw [HST.out]; rfl⟩
        case measure => simpa [intOf] using hm1
    · have hltZ : ¬ (i : Int) < (l.length : Int) := by omega
      have he : l.take i = l := List.take_of_length_le (by omega)
      rw [he]
      go_wp2
      go_ret
      exact ⟨rfl, rfl⟩

/-- it is open just if the code's own walk says so -/
theorem opn_run (l : List LK.Bs) (h : ∀ x ∈ l, LK.pc x = [x]) : opn l = (LK.run l).1 := by
  have key : ∀ (l : List LK.Bs) (o : Bool) (ps : List LK.Part), (∀ x ∈ l, LK.pc x = [x]) → l.foldl (fun o x => !o && x == [92]) o = (l.foldl LK.step (o, ps)).1 := by
    intro l
    induction l with
    | nil => intro o ps _; rfl
    | cons x l ih =>
      intro o ps hl
      have hx := hl x List.mem_cons_self
      have hl' : ∀ y ∈ l, LK.pc y = [y] := fun y hy => hl y (List.mem_cons_of_mem _ hy)
      have e : (LK.kdE o x = 92) ↔ (!o && x == [92]) = true := by
        cases o with
        | true => simp [LK.kdE]
        | false => simpa [LK.kdE] using kd_esc x hx
      rw [List.foldl_cons, List.foldl_cons]
      by_cases h92 : LK.kdE o x = 92
      · rw [e.1 h92, show LK.step (o, ps) x = (true, ps) by simp [LK.step, h92]]
        exact ih true ps hl'
      · have hf : (!o && x == [92]) = false := by
          cases hq : (!o && x == [92]) with
          | false => rfl
          | true => exact absurd (e.2 hq) h92
        rw [hf, show LK.step (o, ps) x = (false, ps ++ [(LK.kdE o x, x)]) by simp [LK.step, h92]]
        exact ih false _ hl'
  exact key l false [] h

set_option maxHeartbeats 1000000 in
theorem patternCheck_any (S : ByteArray) (w : World) (hb : S.size ≤ 9223372036854775807) :
    Calls Tryz.prog 86 #[.string S] w fun e w' => e = .returned (.int .i64 (perr S)) ∧ Fr w w' := by
  by_cases h32 : 32 < S.size
  · have hz : (32 : Int) < (S.size : Int) := by omega
    have hpe : perr S = 2 := by unfold perr; rw [if_pos h32]
    rw [hpe]
    go_enter Tryz.func86, Tryz.ntmps86
    go_wp2
    go_ret
    exact ⟨rfl, Fr.refl _⟩
  · have hz : ¬ (32 : Int) < (S.size : Int) := by omega
    have hpo := piecesOf_any S w (by omega)
    have hlen : (LK.pc S.data.toList).length ≤ 32 := by
      have h1 := LK.pc_len S.data.toList
      have h2 : S.data.toList.length = S.size := by rw [Array.length_toList]; rfl
      omega
    have hop : opn (LK.pc S.data.toList) = (LK.run (LK.pc S.data.toList)).1 := opn_run _ fun x hx => (LK.pc_one hx).1
    cases hr : (LK.run (LK.pc S.data.toList)).1 with
    | true =>
      have hpe : perr S = 1 := by unfold perr; rw [if_neg h32, if_pos hr]
      rw [hpe]
      rw [hr] at hop
      go_enter Tryz.func86, Tryz.ntmps86
      go_wp2_with fail
      refine hpo.mono ?_
      rintro _ w1 ⟨v, rfl, htx, f1⟩
      have hpn := patternEnds_any v _ w1 htx (by omega)
      rw [hop] at hpn
      clear hpo htx
      go_wp2_with fail
      refine hpn.mono ?_
      rintro _ _ ⟨rfl, rfl⟩
      clear hpn
      go_wp2
      go_ret
      exact ⟨rfl, f1⟩
    | false =>
      have hpe : perr S = 0 := by unfold perr; rw [if_neg h32, if_neg (by rw [hr]; decide)]
      rw [hpe]
      rw [hr] at hop
      go_enter Tryz.func86, Tryz.ntmps86
      go_wp2_with fail
      refine hpo.mono ?_
      rintro _ w1 ⟨v, rfl, htx, f1⟩
      have hpn := patternEnds_any v _ w1 htx (by omega)
      rw [hop] at hpn
      clear hpo htx
      go_wp2_with fail
      refine hpn.mono ?_
      rintro _ _ ⟨rfl, rfl⟩
      clear hpn
      go_wp2
      go_ret
      exact ⟨rfl, f1⟩

end Go.Proofs.YtjljohmflhmkmaaGreatDoor
namespace Go.Proofs.YtjljohmflhmkmaaGreatDoor
namespace LK

theorem isEmpty_iff {α : Type} (l : List α) : l.isEmpty = true ↔ l = [] := by cases l <;> simp
theorem mt_append : ∀ (P Q : List Part) (t : List Bs), mt (P ++ Q) t = true ↔ ∃ i, i ≤ t.length ∧ mt P (t.take i) = true ∧ mt Q (t.drop i) = true
  | [], Q, t => by
    constructor
    · intro h; exact ⟨0, Nat.zero_le _, rfl, by simpa using h⟩
    · rintro ⟨i, hi, h1, h2⟩
      have e : t.take i = [] := (isEmpty_iff _).1 h1
      have e2 := List.take_append_drop i t
      rw [e, List.nil_append] at e2
      rw [List.nil_append, ← e2]; exact h2
  | p :: ps, Q, t => by
    rw [List.cons_append]
    by_cases hp : p.1 = 37
    · rw [mt_star hp, anyTail_iff]
      constructor
      · rintro ⟨j, hj, h⟩
        obtain ⟨i, hi, h1, h2⟩ := (mt_append ps Q (t.drop j)).1 h
        rw [List.length_drop] at hi
        refine ⟨j + i, by omega, ?_, by rw [List.drop_drop] at h2; exact h2⟩
        rw [mt_star hp]
        refine (anyTail_iff _ _).2 ⟨j, by rw [List.length_take]; omega, ?_⟩
        rw [List.drop_take, Nat.add_sub_cancel_left]
        exact h1
      · rintro ⟨k, hk, h1, h2⟩
        rw [mt_star hp] at h1
        obtain ⟨j, hj, h3⟩ := (anyTail_iff _ _).1 h1
        rw [List.length_take] at hj
        refine ⟨j, by omega, (mt_append ps Q (t.drop j)).2 ⟨k - j, by rw [List.length_drop]; omega, ?_, ?_⟩⟩
        · rw [List.drop_take] at h3; exact h3
        · rw [List.drop_drop, show j + (k - j) = k by omega]; exact h2
    · cases t with
      | nil =>
        rw [mt_one_nil hp]
        constructor
        · intro h; cases h
        · rintro ⟨i, _, h1, _⟩
          rw [List.take_nil, mt_one_nil hp] at h1
          cases h1
      | cons x t =>
        rw [mt_one hp, Bool.and_eq_true, mt_append ps Q t]
        constructor
        · rintro ⟨h0, i, hi, h1, h2⟩
          refine ⟨i + 1, by simpa using hi, ?_, h2⟩
          rw [List.take_succ_cons, mt_one hp, h0, h1]; rfl
        · rintro ⟨k, hk, h1, h2⟩
          cases k with
          | zero => rw [List.take_zero, mt_one_nil hp] at h1; cases h1
          | succ i =>
            rw [List.take_succ_cons, mt_one hp, Bool.and_eq_true] at h1
            exact ⟨h1.1, i, by simpa using hk, h1.2, h2⟩

def st : Part := (37, [37])
theorem mt_st (Q : List Part) (t : List Bs) (h : mt Q t = true) : mt (st :: Q) t = true := by
  rw [mt_star rfl]
  exact (anyTail_iff _ _).2 ⟨0, Nat.zero_le _, h⟩
theorem mt_stst (Q : List Part) (t : List Bs) : mt (st :: st :: Q) t = mt (st :: Q) t := by
  have h : mt (st :: st :: Q) t = true ↔ mt (st :: Q) t = true := by
    constructor
    · intro h
      rw [mt_star rfl] at h
      obtain ⟨i, hi, h1⟩ := (anyTail_iff _ _).1 h
      rw [mt_star rfl] at h1 ⊢
      obtain ⟨j, hj, h2⟩ := (anyTail_iff _ _).1 h1
      rw [List.length_drop] at hj
      exact (anyTail_iff _ _).2 ⟨i + j, by omega, by rw [List.drop_drop] at h2; exact h2⟩
    · exact mt_st _ _
  cases h1 : mt (st :: Q) t with
  | true => exact h.2 h1
  | false =>
    cases h2 : mt (st :: st :: Q) t with
    | false => rfl
    | true => rw [h.1 h2] at h1; cases h1
/-- what a pattern stands for, it stands for with a star more -/
theorem more (P Q : List Part) (t : List Bs) (h : mt (P ++ Q) t = true) : mt (P ++ st :: Q) t = true := by
  obtain ⟨i, hi, h1, h2⟩ := (mt_append P Q t).1 h
  exact (mt_append P (st :: Q) t).2 ⟨i, hi, h1, mt_st _ _ h2⟩
theorem more_two (P Q : List Part) (t : List Bs) : mt (P ++ st :: st :: Q) t = mt (P ++ st :: Q) t := by
  have h : mt (P ++ st :: st :: Q) t = true ↔ mt (P ++ st :: Q) t = true := by
    rw [mt_append, mt_append]
    constructor
    · rintro ⟨i, hi, h1, h2⟩; exact ⟨i, hi, h1, by rw [← mt_stst]; exact h2⟩
    · rintro ⟨i, hi, h1, h2⟩; exact ⟨i, hi, h1, by rw [mt_stst]; exact h2⟩
  cases h1 : mt (P ++ st :: Q) t with
  | true => exact h.2 h1
  | false =>
    cases h2 : mt (P ++ st :: st :: Q) t with
    | false => rfl
    | true => rw [h.1 h2] at h1; cases h1
theorem all_st (t : List Bs) : mt [st] t = true := by
  rw [mt_star rfl]
  exact (anyTail_iff _ _).2 ⟨t.length, Nat.le_refl _, by rw [List.drop_length]; rfl⟩

/-- pieces of a text whose first part is of bytes below 128 -/
theorem pc_asc : ∀ (p q : Bs), (∀ b ∈ p, b.toNat < 128) → pc (p ++ q) = pc p ++ pc q
  | [], q, _ => rfl
  | b :: p, q, h => by
    have hb := h b List.mem_cons_self
    rw [List.cons_append, pc_low b _ (by omega), pc_low b _ (by omega), pc_asc p q (fun c hc => h c (List.mem_cons_of_mem _ hc))]
    rfl
theorem prs_append : ∀ (A B : List Bs) (e : Bool), (prs e (A ++ B)) = ((prs (prs e A).1 B).1, (prs e A).2 ++ (prs (prs e A).1 B).2)
  | [], B, e => by simp [prs]
  | x :: A, B, e => by
    rw [List.cons_append]
    by_cases h : kdE e x = 92
    · have e1 : prs e (x :: (A ++ B)) = prs true (A ++ B) := by conv => lhs; unfold prs; rw [if_pos h]
      have e2 : prs e (x :: A) = prs true A := by conv => lhs; unfold prs; rw [if_pos h]
      rw [e1, e2]
      exact prs_append A B true
    · have e1 : prs e (x :: (A ++ B)) = ((prs false (A ++ B)).1, (kdE e x, x) :: (prs false (A ++ B)).2) := by conv => lhs; unfold prs; rw [if_neg h]
      have e2 : prs e (x :: A) = ((prs false A).1, (kdE e x, x) :: (prs false A).2) := by conv => lhs; unfold prs; rw [if_neg h]
      rw [e1, e2, prs_append A B false]
      rfl
/-- two patterns, one behind the other, the first one of bytes below 128 and not open at its end -/
theorem run_cat (p q : Bs) (h : ∀ b ∈ p, b.toNat < 128) (ho : (run (pc p)).1 = false) : run (pc (p ++ q)) = ((run (pc q)).1, (run (pc p)).2 ++ (run (pc q)).2) := by
  rw [pc_asc p q h, run_eq, run_eq, run_eq, prs_append]
  rw [run_eq] at ho
  rw [ho]

/-- pieces of a text's beginning -/
theorem inr_le {l l' : Bs} (h : ∃ r, l = l' ++ r) (i lo hi : Nat) (hl : inr l' i lo hi = true) : inr l i lo hi = true := by
  obtain ⟨r, rfl⟩ := h
  have := inr_lt hl
  unfold inr at hl ⊢
  rw [List.getElem?_append_left this]
  exact hl
theorem sz_one_le {l l' : Bs} (h : ∃ r, l = l' ++ r) (h1 : sz l = 1) : sz l' = 1 := by
  have m : ∀ i lo hi, inr l' i lo hi = true → inr l i lo hi = true := fun i lo hi => inr_le h i lo hi
  unfold sz at h1 ⊢
  split at h1
  · omega
  · rename_i n1
    split at h1
    · omega
    · rename_i n2
      split at h1
      · omega
      · rename_i n3
        rw [if_neg (fun e => n1 ?_), if_neg (fun e => n2 ?_), if_neg (fun e => n3 ?_)]
        · unfold sec4 at e ⊢
          simp only [Bool.and_eq_true, Bool.or_eq_true] at e ⊢
          exact ⟨⟨e.1.1.imp (Or.imp (And.imp (m _ _ _) (m _ _ _)) (And.imp (m _ _ _) (m _ _ _))) (And.imp (m _ _ _) (m _ _ _)), m _ _ _ e.1.2⟩, m _ _ _ e.2⟩
        · unfold sec3 at e ⊢
          simp only [Bool.and_eq_true, Bool.or_eq_true] at e ⊢
          exact ⟨e.1.imp (Or.imp (Or.imp (And.imp (m _ _ _) (m _ _ _)) (And.imp (m _ _ _) (m _ _ _))) (And.imp (m _ _ _) (m _ _ _))) (And.imp (m _ _ _) (m _ _ _)), m _ _ _ e.2⟩
        · simp only [Bool.and_eq_true] at e ⊢
          exact ⟨m _ _ _ e.1, m _ _ _ e.2⟩
theorem pc_take (l : Bs) : ∀ i, pc ((pc l).take i).flatten = (pc l).take i := by
  refine pc_ind (Q := fun l => ∀ i, pc ((pc l).take i).flatten = (pc l).take i) (by intro i; simp [pc_nil]) (fun l hl ih i => ?_) l
  cases i with
  | zero => simp [pc_nil]
  | succ i =>
    rw [pc_cons hl, List.take_succ_cons, List.flatten_cons]
    obtain ⟨m, hm⟩ : ∃ m, ((pc (l.drop (sz l))).take i).flatten = m := ⟨_, rfl⟩
    have hpre : ∃ r, l.drop (sz l) = m ++ r := by
      refine ⟨((pc (l.drop (sz l))).drop i).flatten, ?_⟩
      rw [← hm, ← List.flatten_append, List.take_append_drop, pc_flat]
    rw [hm]
    have hlen : (l.take (sz l)).length = sz l := by have := sz_len hl; rw [List.length_take]; omega
    have hs : sz (l.take (sz l) ++ m) = sz l := by
      by_cases h2 : 2 ≤ sz l
      · exact sz_keep h2 m
      · have e1 : sz l = 1 := by have := sz_pos l; omega
        obtain ⟨r, hr⟩ := hpre
        rw [e1]
        refine sz_one_le (l := l) ⟨r, ?_⟩ e1
        rw [e1] at hr
        rw [List.append_assoc, ← hr, List.take_append_drop]
    have hne : l.take (sz l) ++ m ≠ [] := by
      intro e
      have := congrArg List.length e
      rw [List.length_append, hlen] at this
      have := sz_pos l
      simp at *
      omega
    rw [pc_cons hne, hs, List.take_append_of_le_length (by omega), List.take_of_length_le (by omega), List.drop_append_of_le_length (by omega), List.drop_eq_nil_of_le (by omega), List.nil_append, ← hm, ih i]
theorem pc_drop (l : Bs) : ∀ i, pc ((pc l).drop i).flatten = (pc l).drop i := by
  refine pc_ind (Q := fun l => ∀ i, pc ((pc l).drop i).flatten = (pc l).drop i) (by intro i; simp [pc_nil]) (fun l hl ih i => ?_) l
  cases i with
  | zero => rw [List.drop_zero, pc_flat]
  | succ i => rw [pc_cons hl, List.drop_succ_cons]; exact ih i
end LK
end Go.Proofs.YtjljohmflhmkmaaGreatDoor
namespace Go.Proofs.YtjljohmflhmkmaaGreatDoor
namespace LK

def bk (b : UInt8) : Bool := b.toNat == 37 || (b.toNat == 95 || b.toNat == 92)
def be (b : UInt8) : Bs := if bk b = true then [92, b] else [b]
def besc (l : Bs) : Bs := l.flatMap be
theorem besc_app (a b : Bs) : besc (a ++ b) = besc a ++ besc b := by simp [besc]

/-- behind its first byte a letter has goers-on alone -/
theorem sz_tail (l : Bs) : ∀ b ∈ (l.take (sz l)).tail, 128 ≤ b.toNat := by
  have key : ∀ i b, 1 ≤ i → i < sz l → l[i]? = some b → 128 ≤ b.toNat := by
    intro i b h1 h2 hb
    have hin : ∀ lo hi, 128 ≤ lo → inr l i lo hi = true → 128 ≤ b.toNat := by
      intro lo hi hlo h
      unfold inr at h
      rw [hb] at h
      simp only [Bool.and_eq_true, decide_eq_true_eq] at h
      omega
    unfold sz at h2
    split at h2
    · rename_i h
      rw [Bool.and_eq_true] at h
      obtain rfl : i = 1 := by omega
      exact hin _ _ (by decide) h.2
    · split at h2
      · rename_i h
        rw [Bool.and_eq_true] at h
        by_cases hi : i = 1
        · subst hi
          have h' := h.1
          unfold sec3 at h'
          simp only [Bool.or_eq_true, Bool.and_eq_true] at h'
          rcases h' with ((h' | h') | h') | h'
          all_goals exact hin _ _ (by decide) h'.2
        · obtain rfl : i = 2 := by omega
          exact hin _ _ (by decide) h.2
      · split at h2
        · rename_i h
          rw [Bool.and_eq_true, Bool.and_eq_true] at h
          by_cases hi : i = 1
          · subst hi
            have h' := h.1.1
            unfold sec4 at h'
            simp only [Bool.or_eq_true, Bool.and_eq_true] at h'
            rcases h' with (h' | h') | h'
            all_goals exact hin _ _ (by decide) h'.2
          · by_cases hi2 : i = 2
            · subst hi2; exact hin _ _ (by decide) h.1.2
            · obtain rfl : i = 3 := by omega
              exact hin _ _ (by decide) h.2
        · omega
  intro b hb
  obtain ⟨j, hj⟩ := List.mem_iff_getElem?.1 hb
  rw [List.getElem?_tail, List.getElem?_take] at hj
  split at hj
  · exact key (j + 1) b (by omega) (by assumption) hj
  · cases hj
theorem be_high {b : UInt8} (h : 128 ≤ b.toNat) : be b = [b] := by
  unfold be bk
  rw [if_neg]
  simp only [Bool.or_eq_true, beq_iff_eq]
  omega
theorem besc_high (l : Bs) (h : ∀ b ∈ l, 128 ≤ b.toNat) : besc l = l := by
  induction l with
  | nil => rfl
  | cons b l ih =>
    show be b ++ besc l = _
    rw [be_high (h b List.mem_cons_self), ih (fun c hc => h c (List.mem_cons_of_mem _ hc))]
    rfl
theorem kd_bk (b : UInt8) (r : Bs) : kd (b :: r) = 97 ↔ bk b = false := by
  unfold kd bk
  simp only [Bool.or_eq_false_iff, beq_eq_false_iff_ne]
  constructor
  · intro h
    split at h
    · cases h
    · split at h
      · cases h
      · split at h
        · cases h
        · omega
  · intro h
    rw [if_neg h.1, if_neg h.2.1, if_neg h.2.2]
/-- escapes byte by byte are escapes piece by piece -/
theorem besc_eq (l : Bs) : besc l = esc (pc l) := by
  refine pc_ind (Q := fun l => besc l = esc (pc l)) rfl (fun l hl ih => ?_) l
  rw [pc_cons hl, esc_cons, ← ih]
  conv => lhs; rw [← List.take_append_drop (sz l) l]
  rw [besc_app]
  congr 1
  have ht := sz_tail l
  obtain ⟨b, r, hx⟩ : ∃ b r, l.take (sz l) = b :: r := by
    cases l with
    | nil => exact absurd rfl hl
    | cons b l =>
      obtain ⟨k, hk⟩ : ∃ k, sz (b :: l) = k + 1 := ⟨sz (b :: l) - 1, by have := sz_pos (b :: l); omega⟩
      exact ⟨b, l.take k, by rw [hk, List.take_succ_cons]⟩
  rw [hx] at ht ⊢
  show be b ++ besc r = _
  rw [besc_high r ht]
  unfold be
  cases hb : bk b with
  | false => rw [if_neg (by decide), if_pos ((kd_bk b r).2 hb)]; rfl
  | true =>
    rw [if_pos rfl, if_neg (fun h => by rw [(kd_bk b r).1 h] at hb; cases hb)]
    rfl
theorem besc_len (l : Bs) : (besc l).length ≤ 2 * l.length := by
  induction l with
  | nil => simp [besc]
  | cons b l ih =>
    show (be b ++ besc l).length ≤ _
    rw [List.length_append, List.length_cons]
    have : (be b).length ≤ 2 := by unfold be; split <;> simp
    omega
theorem besc_snoc (l : Bs) (b : UInt8) : besc (l ++ [b]) = besc l ++ be b := by simp [besc]

/-- a piece that is its only piece, by its kind -/
theorem kd_lit (x : Bs) (hx : pc x = [x]) (c : UInt8) (hc : c.toNat < 128) (hk : kd [c] = c.toNat) (h97 : (c.toNat : Int) ≠ 97) : kd x = c.toNat ↔ x = [c] := by
  constructor
  · intro h
    cases x with
    | nil => exact absurd h (by show (97 : Int) ≠ _; omega)
    | cons b r =>
      have hb : b.toNat = c.toNat := by
        unfold kd at h
        simp only at h
        split at h
        · omega
        · split at h
          · omega
          · split at h
            · omega
            · omega
      have hb2 : b = c := UInt8.toNat_inj.1 hb
      subst hb2
      rw [pc_low b r (by omega)] at hx
      simp only [List.cons.injEq] at hx
      rw [← hx.1.2]
  · intro h; subst h; exact hk
theorem pre_cons_plain (x : Bs) (ps : List Part) : pre ((97, x) :: ps) = x ++ pre ps ∧ whole ((97, x) :: ps) = whole ps := ⟨by simp [pre], by simp [whole]⟩
theorem pre_cons_stop (k : Int) (x : Bs) (ps : List Part) (h : k ≠ 97) : pre ((k, x) :: ps) = [] ∧ whole ((k, x) :: ps) = false := ⟨by simp [pre, h], by simp [whole, h]⟩
end LK
end Go.Proofs.YtjljohmflhmkmaaGreatDoor
namespace Go.Proofs.YtjljohmflhmkmaaGreatDoor
namespace LK

/-- may parts stand for the first k pieces? -/
def row (D : List Part) (T : List Bs) (k : Nat) : Bool := mt D (T.take k)
theorem row_nil (T : List Bs) (k : Nat) (h : k ≤ T.length) : row [] T k = (k == 0) := by
  unfold row
  cases k with
  | zero => rfl
  | succ k =>
    cases T with
    | nil => simp at h
    | cons x T => rfl
theorem row_end (D : List Part) (T : List Bs) : row D T T.length = mt D T := by unfold row; rw [List.take_length]
theorem mt_only {q : Part} (h : q.1 ≠ 37) (r : List Bs) : mt [q] r = true ↔ ∃ x, r = [x] ∧ one q x = true := by
  cases r with
  | nil => rw [mt_one_nil h]; simp
  | cons x r =>
    rw [mt_one h, Bool.and_eq_true]
    constructor
    · rintro ⟨h1, h2⟩
      cases r with
      | nil => exact ⟨x, rfl, h1⟩
      | cons y r => cases h2
    · rintro ⟨y, hy, h1⟩
      cases hy
      exact ⟨h1, rfl⟩
theorem bool_ext {a b : Bool} (h : a = true ↔ b = true) : a = b := by
  cases a <;> cases b <;> simp_all
theorem row_one (D : List Part) {q : Part} (h : q.1 ≠ 37) (T : List Bs) (k : Nat) (x : Bs) (hx : T[k]? = some x) : row (D ++ [q]) T (k + 1) = (row D T k && one q x) := by
  have hk := lt_of_at hx
  have et : T.take (k + 1) = T.take k ++ [x] := by rw [List.take_add_one, hx]; rfl
  have hl : (T.take k).length = k := by rw [List.length_take]; omega
  refine bool_ext ?_
  unfold row
  rw [mt_append, Bool.and_eq_true, et]
  constructor
  · rintro ⟨i, hi, h1, h2⟩
    obtain ⟨y, hy, h3⟩ := (mt_only h _).1 h2
    have hl2 := congrArg List.length hy
    rw [List.length_drop, List.length_append, hl] at hl2
    simp only [List.length_cons, List.length_nil] at hl2
    obtain rfl : i = k := by omega
    rw [List.take_append_of_le_length (by omega), List.take_of_length_le (by omega)] at h1
    rw [List.drop_append_of_le_length (by omega), List.drop_eq_nil_of_le (by omega), List.nil_append] at hy
    simp only [List.cons.injEq, and_true] at hy
    subst hy
    exact ⟨h1, h3⟩
  · rintro ⟨h1, h2⟩
    refine ⟨k, by rw [List.length_append, hl]; omega, ?_, ?_⟩
    · rw [List.take_append_of_le_length (by omega), List.take_of_length_le (by omega)]; exact h1
    · rw [List.drop_append_of_le_length (by omega), List.drop_eq_nil_of_le (by omega), List.nil_append]
      exact (mt_only h _).2 ⟨x, rfl, h2⟩
theorem row_one_zero (D : List Part) {q : Part} (h : q.1 ≠ 37) (T : List Bs) : row (D ++ [q]) T 0 = false := by
  refine bool_ext ?_
  unfold row
  rw [mt_append, List.take_zero]
  constructor
  · rintro ⟨i, hi, h1, h2⟩
    rw [List.drop_nil, mt_one_nil h] at h2
    cases h2
  · intro h; cases h
theorem row_star (D : List Part) (x : Bs) (T : List Bs) (k : Nat) (hk : k ≤ T.length) : row (D ++ [(37, x)]) T k = true ↔ ∃ i, i ≤ k ∧ row D T i = true := by
  have hall : ∀ r : List Bs, mt [((37 : Int), x)] r = true := fun r => by
    rw [mt_star rfl]
    exact (anyTail_iff _ _).2 ⟨r.length, Nat.le_refl _, by rw [List.drop_length]; rfl⟩
  unfold row
  rw [mt_append]
  constructor
  · rintro ⟨i, hi, h1, _⟩
    rw [List.length_take] at hi
    refine ⟨i, by omega, ?_⟩
    rw [List.take_take, Nat.min_eq_left (by omega)] at h1
    exact h1
  · rintro ⟨i, hi, h1⟩
    refine ⟨i, by rw [List.length_take]; omega, ?_, hall _⟩
    rw [List.take_take, Nat.min_eq_left (by omega)]
    exact h1
theorem row_star_zero (D : List Part) (x : Bs) (T : List Bs) : row (D ++ [(37, x)]) T 0 = row D T 0 := by
  refine bool_ext ?_
  rw [row_star D x T 0 (Nat.zero_le _)]
  constructor
  · rintro ⟨i, hi, h⟩
    obtain rfl : i = 0 := by omega
    exact h
  · intro h; exact ⟨0, Nat.le_refl _, h⟩
theorem row_star_succ (D : List Part) (x : Bs) (T : List Bs) (k : Nat) (hk : k + 1 ≤ T.length) : row (D ++ [(37, x)]) T (k + 1) = (row D T (k + 1) || row (D ++ [(37, x)]) T k) := by
  refine bool_ext ?_
  rw [row_star D x T (k + 1) hk, Bool.or_eq_true, row_star D x T k (by omega)]
  constructor
  · rintro ⟨i, hi, h⟩
    by_cases e : i = k + 1
    · subst e; exact Or.inl h
    · exact Or.inr ⟨i, by omega, h⟩
  · rintro (h | ⟨i, hi, h⟩)
    · exact ⟨k + 1, Nat.le_refl _, h⟩
    · exact ⟨i, by omega, h⟩
/-- the whole row as a list -/
def rowL (D : List Part) (T : List Bs) (n : Nat) : List Bool := (List.range n).map (row D T)
theorem rowL_len (D : List Part) (T : List Bs) (n : Nat) : (rowL D T n).length = n := by simp [rowL]
theorem rowL_succ (D : List Part) (T : List Bs) (n : Nat) : rowL D T (n + 1) = rowL D T n ++ [row D T n] := by simp [rowL, List.range_succ]
theorem rowL_at (D : List Part) (T : List Bs) (n k : Nat) (h : k < n) : (rowL D T n)[k]? = some (row D T k) := by simp [rowL, h]
end LK
end Go.Proofs.YtjljohmflhmkmaaGreatDoor
namespace Go.Proofs.YtjljohmflhmkmaaGreatDoor
open Go.ChangeShapes Go.WideShapes Go.ChangeAt Go.RowKit Go.Shelf
set_option linter.unusedVariables false

theorem lit_eq (x : LK.Bs) (c : UInt8) (n : Nat) (hx : LK.pc x = [x]) (hc : c.toNat = n) (h128 : n < 128) (hk : LK.kd [c] = n) (h97 : (n : Int) ≠ 97) : ((⟨x.toArray⟩ : ByteArray).toList == [c]) = decide (LK.kd x = (n : Int)) := by
  rw [Lib.toList_data]
  show (x == [c]) = _
  have h := LK.kd_lit x hx c (by omega) (by rw [hc]; exact hk) (by rw [hc]; exact h97)
  rw [hc] at h
  by_cases hq : x = [c]
  · rw [decide_eq_true (h.2 hq), hq, beq_self_eq_true]
  · rw [decide_eq_false (fun e => hq (h.1 e)), beq_false_of_ne hq]
theorem sv_ne {x y : LK.Bs} (h : x ≠ y) : ((⟨x.toArray⟩ : ByteArray).toList == (⟨y.toArray⟩ : ByteArray).toList) = false := by
  refine beq_false_of_ne fun e => h ?_
  rw [Lib.toList_data, Lib.toList_data] at e
  simpa using e
theorem Tryz.infoBool : (Tryz.prog.info? 4).map (fun i => (i.zero, i.size, i.bytes)) = some (some (.bool false), 1, 1) := by kernel_rfl
/-- a slice value stands for a list of truths, one at least -/
def IsBl (w : World) (v : Value) (l : List Bool) : Prop :=
  ∃ (b cap : Nat), v = .slice (some ⟨b, 0, none⟩) l.length cap ∧ b < w.heap.size ∧ ∀ i x, l[i]? = some x → w.cell? ⟨b, i, none⟩ = some (.bool x)
theorem bl_of_own {w : World} {base n : Nat} {v : Value} {l : List Bool} (hn : l.length = n + 1) (h : w.ownsRow base 4 1 v (n + 1) (l.map Value.bool)) : IsBl w v l := by
  rcases h.2 with ⟨_, h0⟩ | ⟨g, cap, cur, rfl, hb, hg, h3, h4, h5, h6⟩
  · omega
  · refine ⟨g, cap, by rw [hn], (Array.getElem?_eq_some_iff.1 hg).1, fun i x hi => ?_⟩
    have hil := (List.getElem?_eq_some_iff.1 hi).1
    have : (l.map Value.bool)[i]? = some (.bool x) := by rw [List.getElem?_map, hi]; rfl
    rw [← h6, List.getElem?_take, if_pos (by omega), Array.getElem?_toList] at this
    simp [World.cell?, hg, this]
theorem bl_len {w : World} {base n : Nat} {v : Value} {l : List Bool} (h : w.ownsRow base 4 1 v n (l.map Value.bool)) : l.length = n := by
  have := h.1
  simpa using this
theorem below_drewN {B : Nat} {a b : World} (h : Below B a b) (n : Nat) : Below B a (b.drewN n) := h.trans ⟨rfl, rfl, rfl, Nat.le_refl _, fun _ _ => rfl⟩
/-- one truth more -/
theorem bl_more {w w1 w2 : World} {base k : Nat} {v v' : Value} {l : List Bool} {x : Bool} {tmp : Obj} {m : Nat} (hm : m = k + 1) (h : w2.ownsRow base 4 1 v' m (l.map Value.bool ++ [.bool x])) : w2.ownsRow base 4 1 v' (k + 1) ((l ++ [x]).map Value.bool) := by
  subst hm
  rw [List.map_append]
  exact h

set_option maxRecDepth 100000 in
set_option maxHeartbeats 8000000 in
theorem matchOf_any (S s : ByteArray) (w : World) (h0 : perr S = 0) (hs : s.size ≤ 16) :
    Calls Tryz.prog 88 #[.string S, .string s] w fun e w' => e = .returned (.bool (mtc S s)) ∧ Fr w w' := by
  have hsz : S.size ≤ 32 := by
    unfold perr at h0
    split at h0
    · cases h0
    · omega
  have hpo := piecesOf_any S w (by omega)
  have hrun : LK.run (LK.pc S.data.toList) = (false, prts S) := by
    have h1 : (LK.run (LK.pc S.data.toList)).1 = false := by
      unfold perr at h0
      split at h0
      · cases h0
      · cases hr : (LK.run (LK.pc S.data.toList)).1 with
        | false => rfl
        | true => rw [if_pos hr] at h0; cases h0
    exact Prod.ext h1 rfl
  rw [LK.run_eq] at hrun
  have hone : ∀ x ∈ LK.pc S.data.toList, LK.pc x = [x] := fun x hx => (LK.pc_one hx).1
  have hlen : (LK.pc S.data.toList).length ≤ 32 := by
    have h1 := LK.pc_len S.data.toList
    have h2 : S.data.toList.length = S.size := by rw [Array.length_toList]; rfl
    omega
  have htl : (LK.pc s.data.toList).length ≤ 16 := by
    have h1 := LK.pc_len s.data.toList
    have h2 : s.data.toList.length = s.size := by rw [Array.length_toList]; rfl
    omega
  have hmt : mtc S s = LK.mt (prts S) (LK.pc s.data.toList) := rfl
  have hps := fun w1 => piecesOf_any s w1 (by omega)
  obtain ⟨L, hL⟩ : ∃ L, LK.pc S.data.toList = L := ⟨_, rfl⟩
  obtain ⟨T, hTT⟩ : ∃ T, LK.pc s.data.toList = T := ⟨_, rfl⟩
  obtain ⟨PR, hPR⟩ : ∃ PR, prts S = PR := ⟨_, rfl⟩
  rw [hL] at hpo hrun hone hlen
  rw [hTT] at hps htl hmt
  rw [hPR] at hrun hmt
  rw [hmt]
  have HR : Hid _ := hrun
  have HO : Hid _ := hone
  have HPS : Hid _ := hps
  clear hrun hone hL hPR h0 hps hTT hmt
  obtain ⟨i0, hi0, hz0, hz1, hz2⟩ := info_parts Tryz.infoBool
  go_enter Tryz.func88, Tryz.ntmps88
  go_wp2_with fail
  refine hpo.mono ?_
  rintro _ w1 ⟨v1, rfl, htx1, f1⟩
  have HX1 : Hid (IsTx w1 v1 L) := htx1
  clear hpo htx1
  go_wp2_with fail
  refine (HPS.out w1).mono ?_
  rintro _ w2 ⟨v2, rfl, htx2, f2⟩
  have htx1 : IsTx w2 v1 L := IsTx.fr HX1.out f2
  obtain ⟨a1, cap1, rfl, hcap1, hc1⟩ := htx1
  obtain ⟨a2, cap2, rfl, hcap2, hc2⟩ := htx2
  have HC1 : Hid _ := hc1
  have HC2 : Hid _ := hc2
  clear hc1 hc2 HX1 HPS
  go_wp2
  go_loopw [7, 8] (fun av0 kv wr => ∃ (k : Nat) (av : Value), kv = .int .i64 k ∧ av = av0 ∧ k ≤ T.length + 1 ∧ wr.ownsRow w2.heap.size 4 1 av k ((LK.rowL [] T k).map Value.bool) ∧ Below w2.heap.size w2 wr) (fun _ kv _ => T.length + 1 - (intOf kv).toNat)
  case atStart => exact ⟨0, _, rfl, rfl, Nat.zero_le _, World.ownsRow_nil _ _ _ _, Below.refl _ _⟩
  case round =>
    obtain ⟨k, av, rfl, rfl, hk, hrow, hB⟩ := hrel
    have hkl := bl_len hrow
    by_cases hlt : k ≤ T.length
    · have hltZ : (k : Int) ≤ (T.length : Int) := by omega
      have hrs := LK.rowL_succ [] T k
      rw [LK.row_nil T k hlt] at hrs
      obtain ⟨R, hR⟩ : ∃ R, LK.rowL [] T k = R := ⟨_, rfl⟩
      rw [hR] at hrow hrs hkl
      have HRS : Hid _ := hrs
      clear hrs hR
      have hkk : ((k : Int) == 0) = (k == 0) := by
        cases k with
        | zero => rfl
        | succ k => simp; omega
      have HKK : Hid _ := hkk
      clear hkk
      go_wp2_with (at_builtin; refine wpList_append_own _ rfl _ _ 119 rfl w2.heap.size 4 i0 (.bool false) 1 1 Tryz.underlying119 hi0 hz0 hz1 hz2 rfl (by decide) _ _ _ rfl (hrow.alloc _) ⟨wr.heap.size, 0, none⟩ 1 1 [.bool ((k : Int) == 0)] rfl rfl ?c1 ?c2 ?c3 ?c4 ?c5 ?_)
      case c1 => exact cell_one_new _ _ _
      case c2 => intro u hu; simp at hu; subst hu; rfl
      case c3 => unfold maxLen; omega
      case c4 => omega
      case c5 => have := hB.size; simp; omega
      intro v' w3 hown' hgrow _
      have hB2 : Below w2.heap.size w2 w3 := (hB.alloc hB.size _).grown hgrow (by have := hB.size; simp; omega) (fun j ej => (hrow.lt j ej).1)
      have HO2 : Hid (w3.ownsRow w2.heap.size 4 1 v' (k + 1) ((LK.rowL [] T (k + 1)).map Value.bool)) := by
        unfold Hid
        rw [HRS.out, ← HKK.out, List.map_append]
        exact hown'
      obtain ⟨g', cap', rfl⟩ := ownsRow_succ hown'
      clear hown' hgrow hrow
      go_wp2
      go_roundw
      case rel => exact ⟨k + 1, _, by simp, rfl, by omega, HO2.out, hB2⟩
      case measure => simp [intOf] <;> omega
    · have hltZ : ¬ (k : Int) ≤ (T.length : Int) := by omega
      obtain rfl : k = T.length + 1 := by omega
      have hbl0 : IsBl wr av (LK.rowL [] T (T.length + 1)) := bl_of_own hkl hrow
      have HBL0 : Hid (IsBl wr av (LK.rowL [] T (T.length + 1))) := hbl0
      obtain ⟨b0, cb0, rfl, _, _⟩ := hbl0
      have HB0 : Hid _ := hB
      clear hrow hkl hB
      rw [LK.rowL_len] at HBL0 ⊢
      go_wp2
      go_loopw [7, 9] (fun av iv wq => ∃ (i : Nat) (D ps : List LK.Part), iv = .int .i64 i ∧ i ≤ L.length ∧ LK.prs false (L.drop i) = (false, ps) ∧ PR = D ++ ps ∧ IsBl wq av (LK.rowL D T (T.length + 1)) ∧ Below w2.heap.size w2 wq) (fun _ iv _ => L.length - (intOf iv).toNat)
      case atStart => exact ⟨0, [], PR, rfl, Nat.zero_le _, HR.out, rfl, HBL0.out, HB0.out⟩
      case round =>
        rename World => wq
        obtain ⟨i, D, ps, rfl, hi, hprs, hpr, hbl, hB⟩ := hrel
        obtain ⟨bt, cbt, rfl, hbt, hct⟩ := hbl
        rw [LK.rowL_len]
        by_cases hlt2 : i < L.length
        · have hlt2Z : (i : Int) < (L.length : Int) := by omega
          obtain ⟨x, hx⟩ : ∃ x, L[i]? = some x := ⟨L[i], List.getElem?_eq_getElem hlt2⟩
          obtain ⟨b1, rfl, hb1, hcl⟩ : ∃ b, a1 = some ⟨b, 0, none⟩ ∧ b < w2.heap.size ∧ ∀ i x, L[i]? = some x → w2.cell? ⟨b, i, none⟩ = some (sv x) := by
            rcases HC1.out with h | h
            · rw [h] at hlt2; simp at hlt2
            · exact h
          have c0 := (Below.cell hB (p := ⟨b1, i, none⟩) hb1).trans (hcl i x hx)
          have o1 := HO.out x (List.mem_of_getElem? hx)
          have e37 : ((⟨x.toArray⟩ : ByteArray).toList == [37]) = decide (LK.kd x = 37) := lit_eq x 37 37 o1 rfl (by decide) rfl (by decide)
          have e95 : ((⟨x.toArray⟩ : ByteArray).toList == [95]) = decide (LK.kd x = 95) := lit_eq x 95 95 o1 rfl (by decide) rfl (by decide)
          have e92 : ((⟨x.toArray⟩ : ByteArray).toList == [92]) = decide (LK.kd x = 92) := lit_eq x 92 92 o1 rfl (by decide) rfl (by decide)
          have hd := LK.drop_at hx
          rw [hd] at hprs
          unfold sv at c0
          have HCT : Hid _ := hct
          have HB : Hid _ := hB
          have hkd : LK.kd x = 37 ∨ LK.kd x = 95 ∨ LK.kd x = 92 ∨ LK.kd x = 97 := by
            unfold LK.kd
            split
            · exact Or.inr (Or.inr (Or.inr rfl))
            · split
              · exact Or.inl rfl
              · split
                · exact Or.inr (Or.inl rfl)
                · split
                  · exact Or.inr (Or.inr (Or.inl rfl))
                  · exact Or.inr (Or.inr (Or.inr rfl))
          rcases hkd with k | k | k | k
          · have d1 : ((⟨x.toArray⟩ : ByteArray).toList == [37]) = true := by rw [e37, k]; rfl
            have d2 : ((⟨x.toArray⟩ : ByteArray).toList == [95]) = false := by rw [e95, k]; rfl
            have d3 : ((⟨x.toArray⟩ : ByteArray).toList == [92]) = false := by rw [e92, k]; rfl
            have hps : ps = (((37 : Int), x) : LK.Part) :: (LK.prs false (L.drop (i + 1))).2 ∧ (LK.prs false (L.drop (i + 1))).1 = false := by
              have e : LK.kdE false x = 37 := k
              have e2 : LK.prs false (x :: L.drop (i + 1)) = ((LK.prs false (L.drop (i + 1))).1, (((37 : Int), x) : LK.Part) :: (LK.prs false (L.drop (i + 1))).2) := by
                conv => lhs; unfold LK.prs
                rw [e, if_neg (by decide)]
              rw [e2] at hprs
              exact ⟨(congrArg Prod.snd hprs).symm, congrArg Prod.fst hprs⟩
            have H0 : Hid (LK.prs false (L.drop (i + 1)) = (false, (LK.prs false (L.drop (i + 1))).2)) := Prod.ext hps.2 rfl
            have H1 : Hid (PR = (D ++ [(((37 : Int), x) : LK.Part)]) ++ (LK.prs false (L.drop (i + 1))).2) := by unfold Hid; rw [hpr, hps.1]; simp
            clear hprs hps hpr k hx hcl o1 hd e37 e95 e92 hct hB
            obtain ⟨sx, hsx⟩ : ∃ sx : ByteArray, sx = ⟨x.toArray⟩ := ⟨_, rfl⟩
            rw [← hsx] at c0 d1 d2 d3
            have g1 : sx.toList = [37] := eq_of_beq d1
            have g2 : ¬ sx.toList = [95] := ne_of_beq_false d2
            have g3 : ¬ sx.toList = [92] := ne_of_beq_false d3
            clear hsx
            go_wp2
            go_quiet (fail)
            go_wp2
            go_loopw [13, 14] (fun nv0 kv wk => ∃ (k : Nat) (nv : Value), kv = .int .i64 k ∧ nv = nv0 ∧ k ≤ T.length + 1 ∧ wk.ownsRow wq.heap.size 4 1 nv k ((LK.rowL (D ++ [((37 : Int), x)]) T k).map Value.bool) ∧ Below wq.heap.size wq wk) (fun _ kv _ => T.length + 1 - (intOf kv).toNat)
            case atStart => exact ⟨0, _, rfl, rfl, Nat.zero_le _, World.ownsRow_nil _ _ _ _, below_drewN (Below.refl _ _) _⟩
            case round =>
              rename World => wk
              obtain ⟨k, nv, rfl, rfl, hk, hrow, hBk⟩ := hrel
              have hkl := bl_len hrow
              by_cases hkt : k ≤ T.length
              · have hktZ : (k : Int) ≤ (T.length : Int) := by omega
                have hrs := LK.rowL_succ (D ++ [((37 : Int), x)]) T k
                have ca := (hBk.cell (p := ⟨bt, k, none⟩) hbt).trans (HCT.out k _ (LK.rowL_at D T (T.length + 1) k (by omega)))
                cases k with
                | zero =>
                  rw [LK.row_star_zero] at hrs
                  obtain ⟨R, hR⟩ : ∃ R, LK.rowL (D ++ [((37 : Int), x)]) T 0 = R := ⟨_, rfl⟩
                  rw [hR] at hrow hrs hkl
                  have HRS : Hid _ := hrs
                  clear hrs hR
                  cases hA : LK.row D T 0 with
                  | true =>
                    rw [hA] at ca HRS
                    clear hA
                    go_wp2_with (at_builtin; refine wpList_append_own _ rfl _ _ 119 rfl wq.heap.size 4 i0 (.bool false) 1 1 Tryz.underlying119 hi0 hz0 hz1 hz2 rfl (by decide) _ _ _ rfl (hrow.alloc _) ⟨wk.heap.size, 0, none⟩ 1 1 [.bool true] rfl rfl ?c1 ?c2 ?c3 ?c4 ?c5 ?_)
                    case c1 => exact cell_one_new _ _ _
                    case c2 => intro u hu; simp at hu; subst hu; rfl
                    case c3 => unfold maxLen; omega
                    case c4 => omega
                    case c5 => have := hBk.size; simp; omega
                    intro v' w3 hown' hgrow _
                    have hB2 : Below wq.heap.size wq w3 := (hBk.alloc hBk.size _).grown hgrow (by have := hBk.size; simp; omega) (fun j ej => (hrow.lt j ej).1)
                    have HO2 : Hid (w3.ownsRow wq.heap.size 4 1 v' (0 + 1) ((LK.rowL (D ++ [((37 : Int), x)]) T (0 + 1)).map Value.bool)) := by
                      unfold Hid
                      rw [HRS.out, List.map_append]
                      exact hown'
                    obtain ⟨g', cap', rfl⟩ := ownsRow_succ hown'
                    clear hown' hgrow hrow
                    go_wp2
                    go_roundw
                    case rel => exact ⟨0 + 1, _, by simp, rfl, by omega, HO2.out, hB2⟩
                    case measure => simp [intOf] <;> omega
                  | false =>
                    rw [hA] at ca HRS
                    clear hA
                    go_wp2_with (at_builtin; refine wpList_append_own _ rfl _ _ 119 rfl wq.heap.size 4 i0 (.bool false) 1 1 Tryz.underlying119 hi0 hz0 hz1 hz2 rfl (by decide) _ _ _ rfl (hrow.alloc _) ⟨wk.heap.size, 0, none⟩ 1 1 [.bool false] rfl rfl ?c1 ?c2 ?c3 ?c4 ?c5 ?_)
                    case c1 => exact cell_one_new _ _ _
                    case c2 => intro u hu; simp at hu; subst hu; rfl
                    case c3 => unfold maxLen; omega
                    case c4 => omega
                    case c5 => have := hBk.size; simp; omega
                    intro v' w3 hown' hgrow _
                    have hB2 : Below wq.heap.size wq w3 := (hBk.alloc hBk.size _).grown hgrow (by have := hBk.size; simp; omega) (fun j ej => (hrow.lt j ej).1)
                    have HO2 : Hid (w3.ownsRow wq.heap.size 4 1 v' (0 + 1) ((LK.rowL (D ++ [((37 : Int), x)]) T (0 + 1)).map Value.bool)) := by
                      unfold Hid
                      rw [HRS.out, List.map_append]
                      exact hown'
                    obtain ⟨g', cap', rfl⟩ := ownsRow_succ hown'
                    clear hown' hgrow hrow
                    go_wp2
                    go_roundw
                    case rel => exact ⟨0 + 1, _, by simp, rfl, by omega, HO2.out, hB2⟩
                    case measure => simp [intOf] <;> omega
                | succ k =>
                  rw [LK.row_star_succ D _ T k (by omega)] at hrs
                  obtain ⟨bn, cbn, rfl, hbn, hcn⟩ := bl_of_own hkl hrow
                  have cn := hcn k _ (LK.rowL_at (D ++ [((37 : Int), x)]) T (k + 1) k (by omega))
                  rw [LK.rowL_len] at hrow ⊢
                  obtain ⟨R, hR⟩ : ∃ R, LK.rowL (D ++ [((37 : Int), x)]) T (k + 1) = R := ⟨_, rfl⟩
                  rw [hR] at hrow hrs hkl
                  have HRS : Hid _ := hrs
                  have kz : (0 : Int) < (k : Int) + 1 := by omega
                  clear hrs hcn
                  have HR2 : Hid _ := hR
                  clear hR
                  cases hA : LK.row D T (k + 1) with
                  | true =>
                    rw [hA] at ca HRS
                    clear hA
                    go_wp2_with (at_builtin; refine wpList_append_own _ rfl _ _ 119 rfl wq.heap.size 4 i0 (.bool false) 1 1 Tryz.underlying119 hi0 hz0 hz1 hz2 rfl (by decide) _ _ _ rfl (hrow.alloc _) ⟨wk.heap.size, 0, none⟩ 1 1 [.bool true] rfl rfl ?c1 ?c2 ?c3 ?c4 ?c5 ?_)
                    case c1 => exact cell_one_new _ _ _
                    case c2 => intro u hu; simp at hu; subst hu; rfl
                    case c3 => unfold maxLen; omega
                    case c4 => omega
                    case c5 => have := hBk.size; simp; omega
                    intro v' w3 hown' hgrow _
                    have hB2 : Below wq.heap.size wq w3 := (hBk.alloc hBk.size _).grown hgrow (by have := hBk.size; simp; omega) (fun j ej => (hrow.lt j ej).1)
                    have HO2 : Hid (w3.ownsRow wq.heap.size 4 1 v' ((k + 1) + 1) ((LK.rowL (D ++ [((37 : Int), x)]) T ((k + 1) + 1)).map Value.bool)) := by
                      unfold Hid
                      rw [HRS.out, List.map_append]
                      exact hown'
                    obtain ⟨g', cap', rfl⟩ := ownsRow_succ hown'
                    clear hown' hgrow hrow
                    go_wp2
                    go_roundw
                    case rel => exact ⟨(k + 1) + 1, _, by simp, rfl, by omega, HO2.out, hB2⟩
                    case measure => simp [intOf] <;> omega
                  | false =>
                    rw [hA] at ca HRS
                    clear hA
                    cases hBb : LK.row (D ++ [((37 : Int), x)]) T k with
                    | true =>
                      rw [hBb] at cn HRS
                      clear hBb
                      go_wp2_with (at_builtin; refine wpList_append_own _ rfl _ _ 119 rfl wq.heap.size 4 i0 (.bool false) 1 1 Tryz.underlying119 hi0 hz0 hz1 hz2 rfl (by decide) _ _ _ rfl (hrow.alloc _) ⟨wk.heap.size, 0, none⟩ 1 1 [.bool true] rfl rfl ?c1 ?c2 ?c3 ?c4 ?c5 ?_)
                      case c1 => exact cell_one_new _ _ _
                      case c2 => intro u hu; simp at hu; subst hu; rfl
                      case c3 => unfold maxLen; omega
                      case c4 => omega
                      case c5 => have := hBk.size; simp; omega
                      intro v' w3 hown' hgrow _
                      have hB2 : Below wq.heap.size wq w3 := (hBk.alloc hBk.size _).grown hgrow (by have := hBk.size; simp; omega) (fun j ej => (hrow.lt j ej).1)
                      have HO2 : Hid (w3.ownsRow wq.heap.size 4 1 v' ((k + 1) + 1) ((LK.rowL (D ++ [((37 : Int), x)]) T ((k + 1) + 1)).map Value.bool)) := by
                        unfold Hid
                        rw [HRS.out, List.map_append]
                        exact hown'
                      obtain ⟨g', cap', rfl⟩ := ownsRow_succ hown'
                      clear hown' hgrow hrow
                      go_wp2
                      go_roundw
                      case rel => exact ⟨(k + 1) + 1, _, by simp, rfl, by omega, HO2.out, hB2⟩
                      case measure => simp [intOf] <;> omega
                    | false =>
                      rw [hBb] at cn HRS
                      clear hBb
                      go_wp2_with (at_builtin; refine wpList_append_own _ rfl _ _ 119 rfl wq.heap.size 4 i0 (.bool false) 1 1 Tryz.underlying119 hi0 hz0 hz1 hz2 rfl (by decide) _ _ _ rfl (hrow.alloc _) ⟨wk.heap.size, 0, none⟩ 1 1 [.bool false] rfl rfl ?c1 ?c2 ?c3 ?c4 ?c5 ?_)
                      case c1 => exact cell_one_new _ _ _
                      case c2 => intro u hu; simp at hu; subst hu; rfl
                      case c3 => unfold maxLen; omega
                      case c4 => omega
                      case c5 => have := hBk.size; simp; omega
                      intro v' w3 hown' hgrow _
                      have hB2 : Below wq.heap.size wq w3 := (hBk.alloc hBk.size _).grown hgrow (by have := hBk.size; simp; omega) (fun j ej => (hrow.lt j ej).1)
                      have HO2 : Hid (w3.ownsRow wq.heap.size 4 1 v' ((k + 1) + 1) ((LK.rowL (D ++ [((37 : Int), x)]) T ((k + 1) + 1)).map Value.bool)) := by
                        unfold Hid
                        rw [HRS.out, List.map_append]
                        exact hown'
                      obtain ⟨g', cap', rfl⟩ := ownsRow_succ hown'
                      clear hown' hgrow hrow
                      go_wp2
                      go_roundw
                      case rel => exact ⟨(k + 1) + 1, _, by simp, rfl, by omega, HO2.out, hB2⟩
                      case measure => simp [intOf] <;> omega
              · have hktZ : ¬ (k : Int) ≤ (T.length : Int) := by omega
                obtain rfl : k = T.length + 1 := by omega
                have hbl2 : IsBl wk nv (LK.rowL (D ++ [((37 : Int), x)]) T (T.length + 1)) := bl_of_own hkl hrow
                have HBL2 : Hid (IsBl wk nv (LK.rowL (D ++ [((37 : Int), x)]) T (T.length + 1))) := hbl2
                obtain ⟨b3, cb3, rfl, _, _⟩ := hbl2
                have HB3 : Hid (Below w2.heap.size w2 wk) := Fr.trans HB.out hBk
                clear hrow hkl hBk
                rw [LK.rowL_len] at HBL2 ⊢
                go_wp2
                go_roundw
                case rel => exact ⟨i + 1, D ++ [((37 : Int), x)], _, by simp, by omega, H0.out, H1.out, HBL2.out, HB3.out⟩
                case measure => simp [intOf] <;> omega
          · have d1 : ((⟨x.toArray⟩ : ByteArray).toList == [37]) = false := by rw [e37, k]; rfl
            have d2 : ((⟨x.toArray⟩ : ByteArray).toList == [95]) = true := by rw [e95, k]; rfl
            have d3 : ((⟨x.toArray⟩ : ByteArray).toList == [92]) = false := by rw [e92, k]; rfl
            have hps : ps = (((95 : Int), x) : LK.Part) :: (LK.prs false (L.drop (i + 1))).2 ∧ (LK.prs false (L.drop (i + 1))).1 = false := by
              have e : LK.kdE false x = 95 := k
              have e2 : LK.prs false (x :: L.drop (i + 1)) = ((LK.prs false (L.drop (i + 1))).1, (((95 : Int), x) : LK.Part) :: (LK.prs false (L.drop (i + 1))).2) := by
                conv => lhs; unfold LK.prs
                rw [e, if_neg (by decide)]
              rw [e2] at hprs
              exact ⟨(congrArg Prod.snd hprs).symm, congrArg Prod.fst hprs⟩
            have H0 : Hid (LK.prs false (L.drop (i + 1)) = (false, (LK.prs false (L.drop (i + 1))).2)) := Prod.ext hps.2 rfl
            have H1 : Hid (PR = (D ++ [(((95 : Int), x) : LK.Part)]) ++ (LK.prs false (L.drop (i + 1))).2) := by unfold Hid; rw [hpr, hps.1]; simp
            have hq37 : ((((95 : Int), x) : LK.Part)).1 ≠ 37 := by show (95 : Int) ≠ 37; decide
            clear hprs hps hpr k hx hcl o1 hd e37 e95 e92 hct hB
            obtain ⟨sx, hsx⟩ : ∃ sx : ByteArray, sx = ⟨x.toArray⟩ := ⟨_, rfl⟩
            rw [← hsx] at c0 d1 d2 d3
            have g1 : ¬ sx.toList = [37] := ne_of_beq_false d1
            have g2 : sx.toList = [95] := eq_of_beq d2
            have g3 : ¬ sx.toList = [92] := ne_of_beq_false d3
            clear hsx
            go_wp2
            go_quiet (fail)
            go_wp2
            go_loopw [13, 14] (fun nv0 kv wk => ∃ (k : Nat) (nv : Value), kv = .int .i64 k ∧ nv = nv0 ∧ k ≤ T.length + 1 ∧ wk.ownsRow wq.heap.size 4 1 nv k ((LK.rowL (D ++ [((95 : Int), x)]) T k).map Value.bool) ∧ Below wq.heap.size wq wk) (fun _ kv _ => T.length + 1 - (intOf kv).toNat)
            case atStart => exact ⟨0, _, rfl, rfl, Nat.zero_le _, World.ownsRow_nil _ _ _ _, below_drewN (Below.refl _ _) _⟩
            case round =>
              rename World => wk
              obtain ⟨k, nv, rfl, rfl, hk, hrow, hBk⟩ := hrel
              have hkl := bl_len hrow
              by_cases hkt : k ≤ T.length
              · have hktZ : (k : Int) ≤ (T.length : Int) := by omega
                have hrs := LK.rowL_succ (D ++ [((95 : Int), x)]) T k
                cases k with
                | zero =>
                  rw [LK.row_one_zero D hq37] at hrs
                  obtain ⟨R, hR⟩ : ∃ R, LK.rowL (D ++ [((95 : Int), x)]) T 0 = R := ⟨_, rfl⟩
                  rw [hR] at hrow hrs hkl
                  have HRS : Hid _ := hrs
                  clear hrs hR
                  go_wp2_with (at_builtin; refine wpList_append_own _ rfl _ _ 119 rfl wq.heap.size 4 i0 (.bool false) 1 1 Tryz.underlying119 hi0 hz0 hz1 hz2 rfl (by decide) _ _ _ rfl (hrow.alloc _) ⟨wk.heap.size, 0, none⟩ 1 1 [.bool false] rfl rfl ?c1 ?c2 ?c3 ?c4 ?c5 ?_)
                  case c1 => exact cell_one_new _ _ _
                  case c2 => intro u hu; simp at hu; subst hu; rfl
                  case c3 => unfold maxLen; omega
                  case c4 => omega
                  case c5 => have := hBk.size; simp; omega
                  intro v' w3 hown' hgrow _
                  have hB2 : Below wq.heap.size wq w3 := (hBk.alloc hBk.size _).grown hgrow (by have := hBk.size; simp; omega) (fun j ej => (hrow.lt j ej).1)
                  have HO2 : Hid (w3.ownsRow wq.heap.size 4 1 v' (0 + 1) ((LK.rowL (D ++ [((95 : Int), x)]) T (0 + 1)).map Value.bool)) := by
                    unfold Hid
                    rw [HRS.out, List.map_append]
                    exact hown'
                  obtain ⟨g', cap', rfl⟩ := ownsRow_succ hown'
                  clear hown' hgrow hrow
                  go_wp2
                  go_roundw
                  case rel => exact ⟨0 + 1, _, by simp, rfl, by omega, HO2.out, hB2⟩
                  case measure => simp [intOf] <;> omega
                | succ k =>
                  obtain ⟨z, hz⟩ : ∃ z, T[k]? = some z := ⟨T[k]'(by omega), List.getElem?_eq_getElem (by omega)⟩
                  rw [LK.row_one D hq37 T k z hz] at hrs
                  have ca := (hBk.cell (p := ⟨bt, k, none⟩) hbt).trans (HCT.out k _ (LK.rowL_at D T (T.length + 1) k (by omega)))
                  obtain ⟨b2, rfl, hb2, hcc⟩ : ∃ b, a2 = some ⟨b, 0, none⟩ ∧ b < w2.heap.size ∧ ∀ i x, T[i]? = some x → w2.cell? ⟨b, i, none⟩ = some (sv x) := by
                    rcases HC2.out with h | h
                    · rw [h] at hz; simp at hz
                    · exact h
                  have fr2 : Fr w2 wk := Fr.trans HB.out hBk
                  have ct := (Below.cell fr2 (p := ⟨b2, k, none⟩) hb2).trans (hcc k z hz)
                  unfold sv at ct
                  obtain ⟨R, hR⟩ : ∃ R, LK.rowL (D ++ [((95 : Int), x)]) T (k + 1) = R := ⟨_, rfl⟩
                  rw [hR] at hrow hrs hkl
                  have HRS : Hid _ := hrs
                  have kz : (0 : Int) < (k : Int) + 1 := by omega
                  have kt : (k : Int) < (T.length : Int) := by omega
                  clear hrs hR hcc hz
                  cases hA : LK.row D T k with
                  | false =>
                    rw [hA] at ca HRS
                    clear hA
                    go_wp2_with (at_builtin; refine wpList_append_own _ rfl _ _ 119 rfl wq.heap.size 4 i0 (.bool false) 1 1 Tryz.underlying119 hi0 hz0 hz1 hz2 rfl (by decide) _ _ _ rfl (hrow.alloc _) ⟨wk.heap.size, 0, none⟩ 1 1 [.bool false] rfl rfl ?c1 ?c2 ?c3 ?c4 ?c5 ?_)
                    case c1 => exact cell_one_new _ _ _
                    case c2 => intro u hu; simp at hu; subst hu; rfl
                    case c3 => unfold maxLen; omega
                    case c4 => omega
                    case c5 => have := hBk.size; simp; omega
                    intro v' w3 hown' hgrow _
                    have hB2 : Below wq.heap.size wq w3 := (hBk.alloc hBk.size _).grown hgrow (by have := hBk.size; simp; omega) (fun j ej => (hrow.lt j ej).1)
                    have HO2 : Hid (w3.ownsRow wq.heap.size 4 1 v' ((k + 1) + 1) ((LK.rowL (D ++ [((95 : Int), x)]) T ((k + 1) + 1)).map Value.bool)) := by
                      unfold Hid
                      rw [HRS.out, List.map_append]
                      exact hown'
                    obtain ⟨g', cap', rfl⟩ := ownsRow_succ hown'
                    clear hown' hgrow hrow
                    go_wp2
                    go_roundw
                    case rel => exact ⟨(k + 1) + 1, _, by simp, rfl, by omega, HO2.out, hB2⟩
                    case measure => simp [intOf] <;> omega
                  | true =>
                    rw [hA] at ca HRS
                    clear hA
                    have e1 : LK.one ((95 : Int), x) z = true := by simp [LK.one]
                    rw [e1] at HRS
                    clear e1
                    go_wp2_with (at_builtin; refine wpList_append_own _ rfl _ _ 119 rfl wq.heap.size 4 i0 (.bool false) 1 1 Tryz.underlying119 hi0 hz0 hz1 hz2 rfl (by decide) _ _ _ rfl (hrow.alloc _) ⟨wk.heap.size, 0, none⟩ 1 1 [.bool true] rfl rfl ?c1 ?c2 ?c3 ?c4 ?c5 ?_)
                    case c1 => exact cell_one_new _ _ _
                    case c2 => intro u hu; simp at hu; subst hu; rfl
                    case c3 => unfold maxLen; omega
                    case c4 => omega
                    case c5 => have := hBk.size; simp; omega
                    intro v' w3 hown' hgrow _
                    have hB2 : Below wq.heap.size wq w3 := (hBk.alloc hBk.size _).grown hgrow (by have := hBk.size; simp; omega) (fun j ej => (hrow.lt j ej).1)
                    have HO2 : Hid (w3.ownsRow wq.heap.size 4 1 v' ((k + 1) + 1) ((LK.rowL (D ++ [((95 : Int), x)]) T ((k + 1) + 1)).map Value.bool)) := by
                      unfold Hid
                      rw [HRS.out, List.map_append]
                      exact hown'
                    obtain ⟨g', cap', rfl⟩ := ownsRow_succ hown'
                    clear hown' hgrow hrow
                    go_wp2
                    go_roundw
                    case rel => exact ⟨(k + 1) + 1, _, by simp, rfl, by omega, HO2.out, hB2⟩
                    case measure => simp [intOf] <;> omega
              · have hktZ : ¬ (k : Int) ≤ (T.length : Int) := by omega
                obtain rfl : k = T.length + 1 := by omega
                have hbl2 : IsBl wk nv (LK.rowL (D ++ [((95 : Int), x)]) T (T.length + 1)) := bl_of_own hkl hrow
                have HBL2 : Hid (IsBl wk nv (LK.rowL (D ++ [((95 : Int), x)]) T (T.length + 1))) := hbl2
                obtain ⟨b3, cb3, rfl, _, _⟩ := hbl2
                have HB3 : Hid (Below w2.heap.size w2 wk) := Fr.trans HB.out hBk
                clear hrow hkl hBk
                rw [LK.rowL_len] at HBL2 ⊢
                go_wp2
                go_roundw
                case rel => exact ⟨i + 1, D ++ [((95 : Int), x)], _, by simp, by omega, H0.out, H1.out, HBL2.out, HB3.out⟩
                case measure => simp [intOf] <;> omega
          · have d1 : ((⟨x.toArray⟩ : ByteArray).toList == [37]) = false := by rw [e37, k]; rfl
            have d2 : ((⟨x.toArray⟩ : ByteArray).toList == [95]) = false := by rw [e95, k]; rfl
            have d3 : ((⟨x.toArray⟩ : ByteArray).toList == [92]) = true := by rw [e92, k]; rfl
            have hp2 : LK.prs true (L.drop (i + 1)) = (false, ps) := by
              rw [← hprs]
              conv => rhs; unfold LK.prs
              have e : LK.kdE false x = 92 := k
              rw [if_pos e]
            have hlt3 : i + 1 < L.length := by
              refine Nat.lt_of_not_le fun h => ?_
              rw [List.drop_eq_nil_of_le h] at hp2
              cases congrArg Prod.fst hp2
            have hlt3Z : (i : Int) + 1 < (L.length : Int) := by omega
            obtain ⟨yy, hy⟩ : ∃ y, L[i + 1]? = some y := ⟨L[i + 1], List.getElem?_eq_getElem hlt3⟩
            have c1 := (Below.cell HB.out (p := ⟨b1, i + 1, none⟩) hb1).trans (hcl (i + 1) yy hy)
            rw [LK.drop_at hy] at hp2
            have hps : ps = ((97 : Int), yy) :: (LK.prs false (L.drop (i + 1 + 1))).2 ∧ (LK.prs false (L.drop (i + 1 + 1))).1 = false := by
              have e : LK.kdE true yy = 97 := rfl
              have e2 : LK.prs true (yy :: L.drop (i + 1 + 1)) = ((LK.prs false (L.drop (i + 1 + 1))).1, ((97 : Int), yy) :: (LK.prs false (L.drop (i + 1 + 1))).2) := by
                conv => lhs; unfold LK.prs
                rw [e, if_neg (by decide)]
              rw [e2] at hp2
              exact ⟨(congrArg Prod.snd hp2).symm, congrArg Prod.fst hp2⟩
            have H0 : Hid (LK.prs false (L.drop (i + 1 + 1)) = (false, (LK.prs false (L.drop (i + 1 + 1))).2)) := Prod.ext hps.2 rfl
            have H1 : Hid (PR = (D ++ [((97 : Int), yy)]) ++ (LK.prs false (L.drop (i + 1 + 1))).2) := by unfold Hid; rw [hpr, hps.1]; simp
            have hq37 : (((97 : Int), yy) : LK.Part).1 ≠ 37 := by show (97 : Int) ≠ 37; decide
            unfold sv at c1
            clear hprs hps hpr k hx hcl o1 hd e37 e95 e92 hct hB hp2 hy
            obtain ⟨sy, hsy⟩ : ∃ sy : ByteArray, sy = ⟨yy.toArray⟩ := ⟨_, rfl⟩
            rw [← hsy] at c1
            have HSY : Hid (sy = ⟨yy.toArray⟩) := hsy
            clear hsy
            generalize (⟨x.toArray⟩ : ByteArray) = sx at c0 d1 d2 d3
            have g1 : ¬ sx.toList = [37] := ne_of_beq_false d1
            have g2 : ¬ sx.toList = [95] := ne_of_beq_false d2
            have g3 : sx.toList = [92] := eq_of_beq d3
            go_wp2
            go_quiet (fail)
            go_wp2
            go_loopw [13, 14] (fun nv0 kv wk => ∃ (k : Nat) (nv : Value), kv = .int .i64 k ∧ nv = nv0 ∧ k ≤ T.length + 1 ∧ wk.ownsRow wq.heap.size 4 1 nv k ((LK.rowL (D ++ [((97 : Int), yy)]) T k).map Value.bool) ∧ Below wq.heap.size wq wk) (fun _ kv _ => T.length + 1 - (intOf kv).toNat)
            case atStart => exact ⟨0, _, rfl, rfl, Nat.zero_le _, World.ownsRow_nil _ _ _ _, below_drewN (Below.refl _ _) _⟩
            case round =>
              rename World => wk
              obtain ⟨k, nv, rfl, rfl, hk, hrow, hBk⟩ := hrel
              have hkl := bl_len hrow
              by_cases hkt : k ≤ T.length
              · have hktZ : (k : Int) ≤ (T.length : Int) := by omega
                have hrs := LK.rowL_succ (D ++ [((97 : Int), yy)]) T k
                cases k with
                | zero =>
                  rw [LK.row_one_zero D hq37] at hrs
                  obtain ⟨R, hR⟩ : ∃ R, LK.rowL (D ++ [((97 : Int), yy)]) T 0 = R := ⟨_, rfl⟩
                  rw [hR] at hrow hrs hkl
                  have HRS : Hid _ := hrs
                  clear hrs hR
                  go_wp2_with (at_builtin; refine wpList_append_own _ rfl _ _ 119 rfl wq.heap.size 4 i0 (.bool false) 1 1 Tryz.underlying119 hi0 hz0 hz1 hz2 rfl (by decide) _ _ _ rfl (hrow.alloc _) ⟨wk.heap.size, 0, none⟩ 1 1 [.bool false] rfl rfl ?c1 ?c2 ?c3 ?c4 ?c5 ?_)
                  case c1 => exact cell_one_new _ _ _
                  case c2 => intro u hu; simp at hu; subst hu; rfl
                  case c3 => unfold maxLen; omega
                  case c4 => omega
                  case c5 => have := hBk.size; simp; omega
                  intro v' w3 hown' hgrow _
                  have hB2 : Below wq.heap.size wq w3 := (hBk.alloc hBk.size _).grown hgrow (by have := hBk.size; simp; omega) (fun j ej => (hrow.lt j ej).1)
                  have HO2 : Hid (w3.ownsRow wq.heap.size 4 1 v' (0 + 1) ((LK.rowL (D ++ [((97 : Int), yy)]) T (0 + 1)).map Value.bool)) := by
                    unfold Hid
                    rw [HRS.out, List.map_append]
                    exact hown'
                  obtain ⟨g', cap', rfl⟩ := ownsRow_succ hown'
                  clear hown' hgrow hrow
                  go_wp2
                  go_roundw
                  case rel => exact ⟨0 + 1, _, by simp, rfl, by omega, HO2.out, hB2⟩
                  case measure => simp [intOf] <;> omega
                | succ k =>
                  obtain ⟨z, hz⟩ : ∃ z, T[k]? = some z := ⟨T[k]'(by omega), List.getElem?_eq_getElem (by omega)⟩
                  rw [LK.row_one D hq37 T k z hz] at hrs
                  have ca := (hBk.cell (p := ⟨bt, k, none⟩) hbt).trans (HCT.out k _ (LK.rowL_at D T (T.length + 1) k (by omega)))
                  obtain ⟨b2, rfl, hb2, hcc⟩ : ∃ b, a2 = some ⟨b, 0, none⟩ ∧ b < w2.heap.size ∧ ∀ i x, T[i]? = some x → w2.cell? ⟨b, i, none⟩ = some (sv x) := by
                    rcases HC2.out with h | h
                    · rw [h] at hz; simp at hz
                    · exact h
                  have fr2 : Fr w2 wk := Fr.trans HB.out hBk
                  have ct := (Below.cell fr2 (p := ⟨b2, k, none⟩) hb2).trans (hcc k z hz)
                  unfold sv at ct
                  obtain ⟨R, hR⟩ : ∃ R, LK.rowL (D ++ [((97 : Int), yy)]) T (k + 1) = R := ⟨_, rfl⟩
                  rw [hR] at hrow hrs hkl
                  have HRS : Hid _ := hrs
                  have kz : (0 : Int) < (k : Int) + 1 := by omega
                  have kt : (k : Int) < (T.length : Int) := by omega
                  clear hrs hR hcc hz
                  cases hA : LK.row D T k with
                  | false =>
                    rw [hA] at ca HRS
                    clear hA
                    go_wp2_with (at_builtin; refine wpList_append_own _ rfl _ _ 119 rfl wq.heap.size 4 i0 (.bool false) 1 1 Tryz.underlying119 hi0 hz0 hz1 hz2 rfl (by decide) _ _ _ rfl (hrow.alloc _) ⟨wk.heap.size, 0, none⟩ 1 1 [.bool false] rfl rfl ?c1 ?c2 ?c3 ?c4 ?c5 ?_)
                    case c1 => exact cell_one_new _ _ _
                    case c2 => intro u hu; simp at hu; subst hu; rfl
                    case c3 => unfold maxLen; omega
                    case c4 => omega
                    case c5 => have := hBk.size; simp; omega
                    intro v' w3 hown' hgrow _
                    have hB2 : Below wq.heap.size wq w3 := (hBk.alloc hBk.size _).grown hgrow (by have := hBk.size; simp; omega) (fun j ej => (hrow.lt j ej).1)
                    have HO2 : Hid (w3.ownsRow wq.heap.size 4 1 v' ((k + 1) + 1) ((LK.rowL (D ++ [((97 : Int), yy)]) T ((k + 1) + 1)).map Value.bool)) := by
                      unfold Hid
                      rw [HRS.out, List.map_append]
                      exact hown'
                    obtain ⟨g', cap', rfl⟩ := ownsRow_succ hown'
                    clear hown' hgrow hrow
                    go_wp2
                    go_roundw
                    case rel => exact ⟨(k + 1) + 1, _, by simp, rfl, by omega, HO2.out, hB2⟩
                    case measure => simp [intOf] <;> omega
                  | true =>
                    rw [hA] at ca HRS
                    clear hA
                    by_cases hzy : z = yy
                    · have e1 : LK.one ((97 : Int), yy) z = true := by rw [hzy]; simp [LK.one]
                      have e2 : ((⟨z.toArray⟩ : ByteArray).toList == sy.toList) = true := by rw [hzy, ← HSY.out]; simp
                      have e3 : (⟨z.toArray⟩ : ByteArray).toList = sy.toList := eq_of_beq e2
                      rw [e1] at HRS
                      clear e1 hzy
                      generalize (⟨z.toArray⟩ : ByteArray) = sz at ct e2 e3
                      go_wp2_with (at_builtin; refine wpList_append_own _ rfl _ _ 119 rfl wq.heap.size 4 i0 (.bool false) 1 1 Tryz.underlying119 hi0 hz0 hz1 hz2 rfl (by decide) _ _ _ rfl (hrow.alloc _) ⟨wk.heap.size, 0, none⟩ 1 1 [.bool true] rfl rfl ?c1 ?c2 ?c3 ?c4 ?c5 ?_)
                      case c1 => exact cell_one_new _ _ _
                      case c2 => intro u hu; simp at hu; subst hu; rfl
                      case c3 => unfold maxLen; omega
                      case c4 => omega
                      case c5 => have := hBk.size; simp; omega
                      intro v' w3 hown' hgrow _
                      have hB2 : Below wq.heap.size wq w3 := (hBk.alloc hBk.size _).grown hgrow (by have := hBk.size; simp; omega) (fun j ej => (hrow.lt j ej).1)
                      have HO2 : Hid (w3.ownsRow wq.heap.size 4 1 v' ((k + 1) + 1) ((LK.rowL (D ++ [((97 : Int), yy)]) T ((k + 1) + 1)).map Value.bool)) := by
                        unfold Hid
                        rw [HRS.out, List.map_append]
                        exact hown'
                      obtain ⟨g', cap', rfl⟩ := ownsRow_succ hown'
                      clear hown' hgrow hrow
                      go_wp2
                      go_roundw
                      case rel => exact ⟨(k + 1) + 1, _, by simp, rfl, by omega, HO2.out, hB2⟩
                      case measure => simp [intOf] <;> omega
                    · have e1 : LK.one ((97 : Int), yy) z = false := by
                        have : (yy == z) = false := beq_false_of_ne fun e => hzy e.symm
                        simp [LK.one, this]
                      have e2 : ((⟨z.toArray⟩ : ByteArray).toList == sy.toList) = false := by rw [HSY.out]; exact sv_ne hzy
                      have e3 : ¬ (⟨z.toArray⟩ : ByteArray).toList = sy.toList := ne_of_beq_false e2
                      rw [e1] at HRS
                      clear e1 hzy
                      generalize (⟨z.toArray⟩ : ByteArray) = sz at ct e2 e3
                      go_wp2_with (at_builtin; refine wpList_append_own _ rfl _ _ 119 rfl wq.heap.size 4 i0 (.bool false) 1 1 Tryz.underlying119 hi0 hz0 hz1 hz2 rfl (by decide) _ _ _ rfl (hrow.alloc _) ⟨wk.heap.size, 0, none⟩ 1 1 [.bool false] rfl rfl ?c1 ?c2 ?c3 ?c4 ?c5 ?_)
                      case c1 => exact cell_one_new _ _ _
                      case c2 => intro u hu; simp at hu; subst hu; rfl
                      case c3 => unfold maxLen; omega
                      case c4 => omega
                      case c5 => have := hBk.size; simp; omega
                      intro v' w3 hown' hgrow _
                      have hB2 : Below wq.heap.size wq w3 := (hBk.alloc hBk.size _).grown hgrow (by have := hBk.size; simp; omega) (fun j ej => (hrow.lt j ej).1)
                      have HO2 : Hid (w3.ownsRow wq.heap.size 4 1 v' ((k + 1) + 1) ((LK.rowL (D ++ [((97 : Int), yy)]) T ((k + 1) + 1)).map Value.bool)) := by
                        unfold Hid
                        rw [HRS.out, List.map_append]
                        exact hown'
                      obtain ⟨g', cap', rfl⟩ := ownsRow_succ hown'
                      clear hown' hgrow hrow
                      go_wp2
                      go_roundw
                      case rel => exact ⟨(k + 1) + 1, _, by simp, rfl, by omega, HO2.out, hB2⟩
                      case measure => simp [intOf] <;> omega
              · have hktZ : ¬ (k : Int) ≤ (T.length : Int) := by omega
                obtain rfl : k = T.length + 1 := by omega
                have hbl2 : IsBl wk nv (LK.rowL (D ++ [((97 : Int), yy)]) T (T.length + 1)) := bl_of_own hkl hrow
                have HBL2 : Hid (IsBl wk nv (LK.rowL (D ++ [((97 : Int), yy)]) T (T.length + 1))) := hbl2
                obtain ⟨b3, cb3, rfl, _, _⟩ := hbl2
                have HB3 : Hid (Below w2.heap.size w2 wk) := Fr.trans HB.out hBk
                clear hrow hkl hBk
                rw [LK.rowL_len] at HBL2 ⊢
                go_wp2
                go_roundw
                case rel => exact ⟨i + 1 + 1, D ++ [((97 : Int), yy)], _, by simp, by omega, H0.out, H1.out, HBL2.out, HB3.out⟩
                case measure => simp [intOf] <;> omega
          · have d1 : ((⟨x.toArray⟩ : ByteArray).toList == [37]) = false := by rw [e37, k]; rfl
            have d2 : ((⟨x.toArray⟩ : ByteArray).toList == [95]) = false := by rw [e95, k]; rfl
            have d3 : ((⟨x.toArray⟩ : ByteArray).toList == [92]) = false := by rw [e92, k]; rfl
            have hps : ps = (((97 : Int), x) : LK.Part) :: (LK.prs false (L.drop (i + 1))).2 ∧ (LK.prs false (L.drop (i + 1))).1 = false := by
              have e : LK.kdE false x = 97 := k
              have e2 : LK.prs false (x :: L.drop (i + 1)) = ((LK.prs false (L.drop (i + 1))).1, (((97 : Int), x) : LK.Part) :: (LK.prs false (L.drop (i + 1))).2) := by
                conv => lhs; unfold LK.prs
                rw [e, if_neg (by decide)]
              rw [e2] at hprs
              exact ⟨(congrArg Prod.snd hprs).symm, congrArg Prod.fst hprs⟩
            have H0 : Hid (LK.prs false (L.drop (i + 1)) = (false, (LK.prs false (L.drop (i + 1))).2)) := Prod.ext hps.2 rfl
            have H1 : Hid (PR = (D ++ [(((97 : Int), x) : LK.Part)]) ++ (LK.prs false (L.drop (i + 1))).2) := by unfold Hid; rw [hpr, hps.1]; simp
            have hq37 : ((((97 : Int), x) : LK.Part)).1 ≠ 37 := by show (97 : Int) ≠ 37; decide
            clear hprs hps hpr k hx hcl o1 hd e37 e95 e92 hct hB
            obtain ⟨sx, hsx⟩ : ∃ sx : ByteArray, sx = ⟨x.toArray⟩ := ⟨_, rfl⟩
            rw [← hsx] at c0 d1 d2 d3
            have g1 : ¬ sx.toList = [37] := ne_of_beq_false d1
            have g2 : ¬ sx.toList = [95] := ne_of_beq_false d2
            have g3 : ¬ sx.toList = [92] := ne_of_beq_false d3
            obtain ⟨yy, hyy⟩ : ∃ yy, yy = x := ⟨_, rfl⟩
            obtain ⟨sy, hsy⟩ : ∃ sy : ByteArray, sy = sx := ⟨_, rfl⟩
            have HSY : Hid (sy = ⟨yy.toArray⟩) := by unfold Hid; rw [hsy, hyy]; exact hsx
            subst hyy
            subst hsy
            clear hsx
            go_wp2
            go_quiet (fail)
            go_wp2
            go_loopw [13, 14] (fun nv0 kv wk => ∃ (k : Nat) (nv : Value), kv = .int .i64 k ∧ nv = nv0 ∧ k ≤ T.length + 1 ∧ wk.ownsRow wq.heap.size 4 1 nv k ((LK.rowL (D ++ [((97 : Int), yy)]) T k).map Value.bool) ∧ Below wq.heap.size wq wk) (fun _ kv _ => T.length + 1 - (intOf kv).toNat)
            case atStart => exact ⟨0, _, rfl, rfl, Nat.zero_le _, World.ownsRow_nil _ _ _ _, below_drewN (Below.refl _ _) _⟩
            case round =>
              rename World => wk
              obtain ⟨k, nv, rfl, rfl, hk, hrow, hBk⟩ := hrel
              have hkl := bl_len hrow
              by_cases hkt : k ≤ T.length
              · have hktZ : (k : Int) ≤ (T.length : Int) := by omega
                have hrs := LK.rowL_succ (D ++ [((97 : Int), yy)]) T k
                cases k with
                | zero =>
                  rw [LK.row_one_zero D hq37] at hrs
                  obtain ⟨R, hR⟩ : ∃ R, LK.rowL (D ++ [((97 : Int), yy)]) T 0 = R := ⟨_, rfl⟩
                  rw [hR] at hrow hrs hkl
                  have HRS : Hid _ := hrs
                  clear hrs hR
                  go_wp2_with (at_builtin; refine wpList_append_own _ rfl _ _ 119 rfl wq.heap.size 4 i0 (.bool false) 1 1 Tryz.underlying119 hi0 hz0 hz1 hz2 rfl (by decide) _ _ _ rfl (hrow.alloc _) ⟨wk.heap.size, 0, none⟩ 1 1 [.bool false] rfl rfl ?c1 ?c2 ?c3 ?c4 ?c5 ?_)
                  case c1 => exact cell_one_new _ _ _
                  case c2 => intro u hu; simp at hu; subst hu; rfl
                  case c3 => unfold maxLen; omega
                  case c4 => omega
                  case c5 => have := hBk.size; simp; omega
                  intro v' w3 hown' hgrow _
                  have hB2 : Below wq.heap.size wq w3 := (hBk.alloc hBk.size _).grown hgrow (by have := hBk.size; simp; omega) (fun j ej => (hrow.lt j ej).1)
                  have HO2 : Hid (w3.ownsRow wq.heap.size 4 1 v' (0 + 1) ((LK.rowL (D ++ [((97 : Int), yy)]) T (0 + 1)).map Value.bool)) := by
                    unfold Hid
                    rw [HRS.out, List.map_append]
                    exact hown'
                  obtain ⟨g', cap', rfl⟩ := ownsRow_succ hown'
                  clear hown' hgrow hrow
                  go_wp2
                  go_roundw
                  case rel => exact ⟨0 + 1, _, by simp, rfl, by omega, HO2.out, hB2⟩
                  case measure => simp [intOf] <;> omega
                | succ k =>
                  obtain ⟨z, hz⟩ : ∃ z, T[k]? = some z := ⟨T[k]'(by omega), List.getElem?_eq_getElem (by omega)⟩
                  rw [LK.row_one D hq37 T k z hz] at hrs
                  have ca := (hBk.cell (p := ⟨bt, k, none⟩) hbt).trans (HCT.out k _ (LK.rowL_at D T (T.length + 1) k (by omega)))
                  obtain ⟨b2, rfl, hb2, hcc⟩ : ∃ b, a2 = some ⟨b, 0, none⟩ ∧ b < w2.heap.size ∧ ∀ i x, T[i]? = some x → w2.cell? ⟨b, i, none⟩ = some (sv x) := by
                    rcases HC2.out with h | h
                    · rw [h] at hz; simp at hz
                    · exact h
                  have fr2 : Fr w2 wk := Fr.trans HB.out hBk
                  have ct := (Below.cell fr2 (p := ⟨b2, k, none⟩) hb2).trans (hcc k z hz)
                  unfold sv at ct
                  obtain ⟨R, hR⟩ : ∃ R, LK.rowL (D ++ [((97 : Int), yy)]) T (k + 1) = R := ⟨_, rfl⟩
                  rw [hR] at hrow hrs hkl
                  have HRS : Hid _ := hrs
                  have kz : (0 : Int) < (k : Int) + 1 := by omega
                  have kt : (k : Int) < (T.length : Int) := by omega
                  clear hrs hR hcc hz
                  cases hA : LK.row D T k with
                  | false =>
                    rw [hA] at ca HRS
                    clear hA
                    go_wp2_with (at_builtin; refine wpList_append_own _ rfl _ _ 119 rfl wq.heap.size 4 i0 (.bool false) 1 1 Tryz.underlying119 hi0 hz0 hz1 hz2 rfl (by decide) _ _ _ rfl (hrow.alloc _) ⟨wk.heap.size, 0, none⟩ 1 1 [.bool false] rfl rfl ?c1 ?c2 ?c3 ?c4 ?c5 ?_)
                    case c1 => exact cell_one_new _ _ _
                    case c2 => intro u hu; simp at hu; subst hu; rfl
                    case c3 => unfold maxLen; omega
                    case c4 => omega
                    case c5 => have := hBk.size; simp; omega
                    intro v' w3 hown' hgrow _
                    have hB2 : Below wq.heap.size wq w3 := (hBk.alloc hBk.size _).grown hgrow (by have := hBk.size; simp; omega) (fun j ej => (hrow.lt j ej).1)
                    have HO2 : Hid (w3.ownsRow wq.heap.size 4 1 v' ((k + 1) + 1) ((LK.rowL (D ++ [((97 : Int), yy)]) T ((k + 1) + 1)).map Value.bool)) := by
                      unfold Hid
                      rw [HRS.out, List.map_append]
                      exact hown'
                    obtain ⟨g', cap', rfl⟩ := ownsRow_succ hown'
                    clear hown' hgrow hrow
                    go_wp2
                    go_roundw
                    case rel => exact ⟨(k + 1) + 1, _, by simp, rfl, by omega, HO2.out, hB2⟩
                    case measure => simp [intOf] <;> omega
                  | true =>
                    rw [hA] at ca HRS
                    clear hA
                    by_cases hzy : z = yy
                    · have e1 : LK.one ((97 : Int), yy) z = true := by rw [hzy]; simp [LK.one]
                      have e2 : ((⟨z.toArray⟩ : ByteArray).toList == sy.toList) = true := by rw [hzy, ← HSY.out]; simp
                      have e3 : (⟨z.toArray⟩ : ByteArray).toList = sy.toList := eq_of_beq e2
                      rw [e1] at HRS
                      clear e1 hzy
                      generalize (⟨z.toArray⟩ : ByteArray) = sz at ct e2 e3
                      go_wp2_with (at_builtin; refine wpList_append_own _ rfl _ _ 119 rfl wq.heap.size 4 i0 (.bool false) 1 1 Tryz.underlying119 hi0 hz0 hz1 hz2 rfl (by decide) _ _ _ rfl (hrow.alloc _) ⟨wk.heap.size, 0, none⟩ 1 1 [.bool true] rfl rfl ?c1 ?c2 ?c3 ?c4 ?c5 ?_)
                      case c1 => exact cell_one_new _ _ _
                      case c2 => intro u hu; simp at hu; subst hu; rfl
                      case c3 => unfold maxLen; omega
                      case c4 => omega
                      case c5 => have := hBk.size; simp; omega
                      intro v' w3 hown' hgrow _
                      have hB2 : Below wq.heap.size wq w3 := (hBk.alloc hBk.size _).grown hgrow (by have := hBk.size; simp; omega) (fun j ej => (hrow.lt j ej).1)
                      have HO2 : Hid (w3.ownsRow wq.heap.size 4 1 v' ((k + 1) + 1) ((LK.rowL (D ++ [((97 : Int), yy)]) T ((k + 1) + 1)).map Value.bool)) := by
                        unfold Hid
                        rw [HRS.out, List.map_append]
                        exact hown'
                      obtain ⟨g', cap', rfl⟩ := ownsRow_succ hown'
                      clear hown' hgrow hrow
                      go_wp2
                      go_roundw
                      case rel => exact ⟨(k + 1) + 1, _, by simp, rfl, by omega, HO2.out, hB2⟩
                      case measure => simp [intOf] <;> omega
                    · have e1 : LK.one ((97 : Int), yy) z = false := by
                        have : (yy == z) = false := beq_false_of_ne fun e => hzy e.symm
                        simp [LK.one, this]
                      have e2 : ((⟨z.toArray⟩ : ByteArray).toList == sy.toList) = false := by rw [HSY.out]; exact sv_ne hzy
                      have e3 : ¬ (⟨z.toArray⟩ : ByteArray).toList = sy.toList := ne_of_beq_false e2
                      rw [e1] at HRS
                      clear e1 hzy
                      generalize (⟨z.toArray⟩ : ByteArray) = sz at ct e2 e3
                      go_wp2_with (at_builtin; refine wpList_append_own _ rfl _ _ 119 rfl wq.heap.size 4 i0 (.bool false) 1 1 Tryz.underlying119 hi0 hz0 hz1 hz2 rfl (by decide) _ _ _ rfl (hrow.alloc _) ⟨wk.heap.size, 0, none⟩ 1 1 [.bool false] rfl rfl ?c1 ?c2 ?c3 ?c4 ?c5 ?_)
                      case c1 => exact cell_one_new _ _ _
                      case c2 => intro u hu; simp at hu; subst hu; rfl
                      case c3 => unfold maxLen; omega
                      case c4 => omega
                      case c5 => have := hBk.size; simp; omega
                      intro v' w3 hown' hgrow _
                      have hB2 : Below wq.heap.size wq w3 := (hBk.alloc hBk.size _).grown hgrow (by have := hBk.size; simp; omega) (fun j ej => (hrow.lt j ej).1)
                      have HO2 : Hid (w3.ownsRow wq.heap.size 4 1 v' ((k + 1) + 1) ((LK.rowL (D ++ [((97 : Int), yy)]) T ((k + 1) + 1)).map Value.bool)) := by
                        unfold Hid
                        rw [HRS.out, List.map_append]
                        exact hown'
                      obtain ⟨g', cap', rfl⟩ := ownsRow_succ hown'
                      clear hown' hgrow hrow
                      go_wp2
                      go_roundw
                      case rel => exact ⟨(k + 1) + 1, _, by simp, rfl, by omega, HO2.out, hB2⟩
                      case measure => simp [intOf] <;> omega
              · have hktZ : ¬ (k : Int) ≤ (T.length : Int) := by omega
                obtain rfl : k = T.length + 1 := by omega
                have hbl2 : IsBl wk nv (LK.rowL (D ++ [((97 : Int), yy)]) T (T.length + 1)) := bl_of_own hkl hrow
                have HBL2 : Hid (IsBl wk nv (LK.rowL (D ++ [((97 : Int), yy)]) T (T.length + 1))) := hbl2
                obtain ⟨b3, cb3, rfl, _, _⟩ := hbl2
                have HB3 : Hid (Below w2.heap.size w2 wk) := Fr.trans HB.out hBk
                clear hrow hkl hBk
                rw [LK.rowL_len] at HBL2 ⊢
                go_wp2
                go_roundw
                case rel => exact ⟨i + 1, D ++ [((97 : Int), yy)], _, by simp, by omega, H0.out, H1.out, HBL2.out, HB3.out⟩
                case measure => simp [intOf] <;> omega
        · have hlt2Z : ¬ (i : Int) < (L.length : Int) := by omega
          rw [List.drop_eq_nil_of_le (by omega)] at hprs
          have hps : ps = [] := (congrArg Prod.snd hprs).symm
          subst hps
          have HD : Hid (LK.row D T T.length = LK.mt PR T) := by unfold Hid; rw [LK.row_end, hpr, List.append_nil]
          have ct := hct T.length _ (LK.rowL_at D T (T.length + 1) T.length (by omega))
          rw [HD.out] at ct
          have ffr : Fr w wq := (f1.trans f2).trans hB
          clear hct hprs hpr HD
          go_wp2
          go_ret
          exact ⟨rfl, ffr⟩
end Go.Proofs.YtjljohmflhmkmaaGreatDoor
