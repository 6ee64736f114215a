/-
  How many bytes a first piece has: the document's table.
-/
import Derived.Test.YtgjgmaadogkjfaaDoorRefIn
namespace Go.Proofs.YtgjgmaadogkjfaaDoor
open Go.ChangeShapes Go.WideShapes Go.ChangeAt Go.RowKit Go.Shelf
set_option linter.unusedVariables false
set_option linter.unusedSimpArgs false

/-- of eight kinds of first bytes it is one, or none -/
theorem lead_cases (l : LK.Bs) : (LK.inr l 0 194 223 = false ∧ LK.inr l 0 224 224 = false ∧ LK.inr l 0 225 236 = false ∧ LK.inr l 0 237 237 = false ∧ LK.inr l 0 238 239 = false ∧ LK.inr l 0 240 240 = false ∧ LK.inr l 0 241 243 = false ∧ LK.inr l 0 244 244 = false) ∨ (LK.inr l 0 194 223 = true ∧ LK.inr l 0 224 224 = false ∧ LK.inr l 0 225 236 = false ∧ LK.inr l 0 237 237 = false ∧ LK.inr l 0 238 239 = false ∧ LK.inr l 0 240 240 = false ∧ LK.inr l 0 241 243 = false ∧ LK.inr l 0 244 244 = false) ∨ (LK.inr l 0 194 223 = false ∧ LK.inr l 0 224 224 = true ∧ LK.inr l 0 225 236 = false ∧ LK.inr l 0 237 237 = false ∧ LK.inr l 0 238 239 = false ∧ LK.inr l 0 240 240 = false ∧ LK.inr l 0 241 243 = false ∧ LK.inr l 0 244 244 = false) ∨ (LK.inr l 0 194 223 = false ∧ LK.inr l 0 224 224 = false ∧ LK.inr l 0 225 236 = true ∧ LK.inr l 0 237 237 = false ∧ LK.inr l 0 238 239 = false ∧ LK.inr l 0 240 240 = false ∧ LK.inr l 0 241 243 = false ∧ LK.inr l 0 244 244 = false) ∨ (LK.inr l 0 194 223 = false ∧ LK.inr l 0 224 224 = false ∧ LK.inr l 0 225 236 = false ∧ LK.inr l 0 237 237 = true ∧ LK.inr l 0 238 239 = false ∧ LK.inr l 0 240 240 = false ∧ LK.inr l 0 241 243 = false ∧ LK.inr l 0 244 244 = false) ∨ (LK.inr l 0 194 223 = false ∧ LK.inr l 0 224 224 = false ∧ LK.inr l 0 225 236 = false ∧ LK.inr l 0 237 237 = false ∧ LK.inr l 0 238 239 = true ∧ LK.inr l 0 240 240 = false ∧ LK.inr l 0 241 243 = false ∧ LK.inr l 0 244 244 = false) ∨ (LK.inr l 0 194 223 = false ∧ LK.inr l 0 224 224 = false ∧ LK.inr l 0 225 236 = false ∧ LK.inr l 0 237 237 = false ∧ LK.inr l 0 238 239 = false ∧ LK.inr l 0 240 240 = true ∧ LK.inr l 0 241 243 = false ∧ LK.inr l 0 244 244 = false) ∨ (LK.inr l 0 194 223 = false ∧ LK.inr l 0 224 224 = false ∧ LK.inr l 0 225 236 = false ∧ LK.inr l 0 237 237 = false ∧ LK.inr l 0 238 239 = false ∧ LK.inr l 0 240 240 = false ∧ LK.inr l 0 241 243 = true ∧ LK.inr l 0 244 244 = false) ∨ (LK.inr l 0 194 223 = false ∧ LK.inr l 0 224 224 = false ∧ LK.inr l 0 225 236 = false ∧ LK.inr l 0 237 237 = false ∧ LK.inr l 0 238 239 = false ∧ LK.inr l 0 240 240 = false ∧ LK.inr l 0 241 243 = false ∧ LK.inr l 0 244 244 = true) := by
  cases l with
  | nil => exact Or.inl ⟨rfl, rfl, rfl, rfl, rfl, rfl, rfl, rfl⟩
  | cons b l =>
    have key : ∀ lo hi, LK.inr (b :: l) 0 lo hi = (decide (lo ≤ b.toNat) && decide (b.toNat ≤ hi)) := fun _ _ => rfl
    simp only [key, Bool.and_eq_true, Bool.and_eq_false_iff, decide_eq_true_eq, decide_eq_false_iff_not]
    omega

set_option maxRecDepth 100000 in
set_option maxHeartbeats 4000000 in
theorem letterLen_any (S : ByteArray) (w : World) : Calls Tryd.prog 31 #[.string S] w fun e w' => e = .returned (.int .i64 (LK.sz S.data.toList)) ∧ w' = w := by
  obtain ⟨n, hn⟩ : ∃ n, LK.sz S.data.toList = n := ⟨_, rfl⟩
  rw [hn]
  unfold LK.sz LK.sec3 LK.sec4 at hn
  have HN : Hid _ := hn
  clear hn
  rcases lead_cases S.data.toList with ⟨h0, h1, h2, h3, h4, h5, h6, h7⟩ | ⟨h0, h1, h2, h3, h4, h5, h6, h7⟩ | ⟨h0, h1, h2, h3, h4, h5, h6, h7⟩ | ⟨h0, h1, h2, h3, h4, h5, h6, h7⟩ | ⟨h0, h1, h2, h3, h4, h5, h6, h7⟩ | ⟨h0, h1, h2, h3, h4, h5, h6, h7⟩ | ⟨h0, h1, h2, h3, h4, h5, h6, h7⟩ | ⟨h0, h1, h2, h3, h4, h5, h6, h7⟩ | ⟨h0, h1, h2, h3, h4, h5, h6, h7⟩
  · obtain rfl : n = 1 := by rw [← HN.out]; simp [h0, h1, h2, h3, h4, h5, h6, h7]
    clear HN
    go_enter Tryd.func31, Tryd.ntmps31
    go_wp2_with (go_at_call 39; refine (in_any S _ _ _ (by decide) (by decide) (by decide) _).mono ?_; rintro _ _ ⟨rfl, rfl⟩)
    go_ret
    exact ⟨rfl, rfl⟩
  · cases s1 : LK.inr S.data.toList 1 128 191 with
    | false =>
      obtain rfl : n = 1 := by rw [← HN.out]; simp [h0, h1, h2, h3, h4, h5, h6, h7, s1]
      clear HN
      go_enter Tryd.func31, Tryd.ntmps31
      go_wp2_with (go_at_call 39; refine (in_any S _ _ _ (by decide) (by decide) (by decide) _).mono ?_; rintro _ _ ⟨rfl, rfl⟩)
      go_ret
      exact ⟨rfl, rfl⟩
    | true =>
      obtain rfl : n = 2 := by rw [← HN.out]; simp [h0, h1, h2, h3, h4, h5, h6, h7, s1]
      clear HN
      go_enter Tryd.func31, Tryd.ntmps31
      go_wp2_with (go_at_call 39; refine (in_any S _ _ _ (by decide) (by decide) (by decide) _).mono ?_; rintro _ _ ⟨rfl, rfl⟩)
      go_ret
      exact ⟨rfl, rfl⟩
  · cases s1 : LK.inr S.data.toList 1 160 191 with
    | false =>
      obtain rfl : n = 1 := by rw [← HN.out]; simp [h0, h1, h2, h3, h4, h5, h6, h7, s1]
      clear HN
      go_enter Tryd.func31, Tryd.ntmps31
      go_wp2_with (go_at_call 39; refine (in_any S _ _ _ (by decide) (by decide) (by decide) _).mono ?_; rintro _ _ ⟨rfl, rfl⟩)
      go_ret
      exact ⟨rfl, rfl⟩
    | true =>
      cases s2 : LK.inr S.data.toList 2 128 191 with
      | false =>
        obtain rfl : n = 1 := by rw [← HN.out]; simp [h0, h1, h2, h3, h4, h5, h6, h7, s1, s2]
        clear HN
        go_enter Tryd.func31, Tryd.ntmps31
        go_wp2_with (go_at_call 39; refine (in_any S _ _ _ (by decide) (by decide) (by decide) _).mono ?_; rintro _ _ ⟨rfl, rfl⟩)
        go_ret
        exact ⟨rfl, rfl⟩
      | true =>
        obtain rfl : n = 3 := by rw [← HN.out]; simp [h0, h1, h2, h3, h4, h5, h6, h7, s1, s2]
        clear HN
        go_enter Tryd.func31, Tryd.ntmps31
        go_wp2_with (go_at_call 39; refine (in_any S _ _ _ (by decide) (by decide) (by decide) _).mono ?_; rintro _ _ ⟨rfl, rfl⟩)
        go_ret
        exact ⟨rfl, rfl⟩
  · cases s1 : LK.inr S.data.toList 1 128 191 with
    | false =>
      obtain rfl : n = 1 := by rw [← HN.out]; simp [h0, h1, h2, h3, h4, h5, h6, h7, s1]
      clear HN
      go_enter Tryd.func31, Tryd.ntmps31
      go_wp2_with (go_at_call 39; refine (in_any S _ _ _ (by decide) (by decide) (by decide) _).mono ?_; rintro _ _ ⟨rfl, rfl⟩)
      go_ret
      exact ⟨rfl, rfl⟩
    | true =>
      cases s2 : LK.inr S.data.toList 2 128 191 with
      | false =>
        obtain rfl : n = 1 := by rw [← HN.out]; simp [h0, h1, h2, h3, h4, h5, h6, h7, s1, s2]
        clear HN
        go_enter Tryd.func31, Tryd.ntmps31
        go_wp2_with (go_at_call 39; refine (in_any S _ _ _ (by decide) (by decide) (by decide) _).mono ?_; rintro _ _ ⟨rfl, rfl⟩)
        go_ret
        exact ⟨rfl, rfl⟩
      | true =>
        obtain rfl : n = 3 := by rw [← HN.out]; simp [h0, h1, h2, h3, h4, h5, h6, h7, s1, s2]
        clear HN
        go_enter Tryd.func31, Tryd.ntmps31
        go_wp2_with (go_at_call 39; refine (in_any S _ _ _ (by decide) (by decide) (by decide) _).mono ?_; rintro _ _ ⟨rfl, rfl⟩)
        go_ret
        exact ⟨rfl, rfl⟩
  · cases s1 : LK.inr S.data.toList 1 128 159 with
    | false =>
      obtain rfl : n = 1 := by rw [← HN.out]; simp [h0, h1, h2, h3, h4, h5, h6, h7, s1]
      clear HN
      go_enter Tryd.func31, Tryd.ntmps31
      go_wp2_with (go_at_call 39; refine (in_any S _ _ _ (by decide) (by decide) (by decide) _).mono ?_; rintro _ _ ⟨rfl, rfl⟩)
      go_ret
      exact ⟨rfl, rfl⟩
    | true =>
      cases s2 : LK.inr S.data.toList 2 128 191 with
      | false =>
        obtain rfl : n = 1 := by rw [← HN.out]; simp [h0, h1, h2, h3, h4, h5, h6, h7, s1, s2]
        clear HN
        go_enter Tryd.func31, Tryd.ntmps31
        go_wp2_with (go_at_call 39; refine (in_any S _ _ _ (by decide) (by decide) (by decide) _).mono ?_; rintro _ _ ⟨rfl, rfl⟩)
        go_ret
        exact ⟨rfl, rfl⟩
      | true =>
        obtain rfl : n = 3 := by rw [← HN.out]; simp [h0, h1, h2, h3, h4, h5, h6, h7, s1, s2]
        clear HN
        go_enter Tryd.func31, Tryd.ntmps31
        go_wp2_with (go_at_call 39; refine (in_any S _ _ _ (by decide) (by decide) (by decide) _).mono ?_; rintro _ _ ⟨rfl, rfl⟩)
        go_ret
        exact ⟨rfl, rfl⟩
  · cases s1 : LK.inr S.data.toList 1 128 191 with
    | false =>
      obtain rfl : n = 1 := by rw [← HN.out]; simp [h0, h1, h2, h3, h4, h5, h6, h7, s1]
      clear HN
      go_enter Tryd.func31, Tryd.ntmps31
      go_wp2_with (go_at_call 39; refine (in_any S _ _ _ (by decide) (by decide) (by decide) _).mono ?_; rintro _ _ ⟨rfl, rfl⟩)
      go_ret
      exact ⟨rfl, rfl⟩
    | true =>
      cases s2 : LK.inr S.data.toList 2 128 191 with
      | false =>
        obtain rfl : n = 1 := by rw [← HN.out]; simp [h0, h1, h2, h3, h4, h5, h6, h7, s1, s2]
        clear HN
        go_enter Tryd.func31, Tryd.ntmps31
        go_wp2_with (go_at_call 39; refine (in_any S _ _ _ (by decide) (by decide) (by decide) _).mono ?_; rintro _ _ ⟨rfl, rfl⟩)
        go_ret
        exact ⟨rfl, rfl⟩
      | true =>
        obtain rfl : n = 3 := by rw [← HN.out]; simp [h0, h1, h2, h3, h4, h5, h6, h7, s1, s2]
        clear HN
        go_enter Tryd.func31, Tryd.ntmps31
        go_wp2_with (go_at_call 39; refine (in_any S _ _ _ (by decide) (by decide) (by decide) _).mono ?_; rintro _ _ ⟨rfl, rfl⟩)
        go_ret
        exact ⟨rfl, rfl⟩
  · cases s1 : LK.inr S.data.toList 1 144 191 with
    | false =>
      obtain rfl : n = 1 := by rw [← HN.out]; simp [h0, h1, h2, h3, h4, h5, h6, h7, s1]
      clear HN
      go_enter Tryd.func31, Tryd.ntmps31
      go_wp2_with (go_at_call 39; refine (in_any S _ _ _ (by decide) (by decide) (by decide) _).mono ?_; rintro _ _ ⟨rfl, rfl⟩)
      go_ret
      exact ⟨rfl, rfl⟩
    | true =>
      cases s2 : LK.inr S.data.toList 2 128 191 with
      | false =>
        obtain rfl : n = 1 := by rw [← HN.out]; simp [h0, h1, h2, h3, h4, h5, h6, h7, s1, s2]
        clear HN
        go_enter Tryd.func31, Tryd.ntmps31
        go_wp2_with (go_at_call 39; refine (in_any S _ _ _ (by decide) (by decide) (by decide) _).mono ?_; rintro _ _ ⟨rfl, rfl⟩)
        go_ret
        exact ⟨rfl, rfl⟩
      | true =>
        cases s3 : LK.inr S.data.toList 3 128 191 with
        | false =>
          obtain rfl : n = 1 := by rw [← HN.out]; simp [h0, h1, h2, h3, h4, h5, h6, h7, s1, s2, s3]
          clear HN
          go_enter Tryd.func31, Tryd.ntmps31
          go_wp2_with (go_at_call 39; refine (in_any S _ _ _ (by decide) (by decide) (by decide) _).mono ?_; rintro _ _ ⟨rfl, rfl⟩)
          go_ret
          exact ⟨rfl, rfl⟩
        | true =>
          obtain rfl : n = 4 := by rw [← HN.out]; simp [h0, h1, h2, h3, h4, h5, h6, h7, s1, s2, s3]
          clear HN
          go_enter Tryd.func31, Tryd.ntmps31
          go_wp2_with (go_at_call 39; refine (in_any S _ _ _ (by decide) (by decide) (by decide) _).mono ?_; rintro _ _ ⟨rfl, rfl⟩)
          go_ret
          exact ⟨rfl, rfl⟩
  · cases s1 : LK.inr S.data.toList 1 128 191 with
    | false =>
      obtain rfl : n = 1 := by rw [← HN.out]; simp [h0, h1, h2, h3, h4, h5, h6, h7, s1]
      clear HN
      go_enter Tryd.func31, Tryd.ntmps31
      go_wp2_with (go_at_call 39; refine (in_any S _ _ _ (by decide) (by decide) (by decide) _).mono ?_; rintro _ _ ⟨rfl, rfl⟩)
      go_ret
      exact ⟨rfl, rfl⟩
    | true =>
      cases s2 : LK.inr S.data.toList 2 128 191 with
      | false =>
        obtain rfl : n = 1 := by rw [← HN.out]; simp [h0, h1, h2, h3, h4, h5, h6, h7, s1, s2]
        clear HN
        go_enter Tryd.func31, Tryd.ntmps31
        go_wp2_with (go_at_call 39; refine (in_any S _ _ _ (by decide) (by decide) (by decide) _).mono ?_; rintro _ _ ⟨rfl, rfl⟩)
        go_ret
        exact ⟨rfl, rfl⟩
      | true =>
        cases s3 : LK.inr S.data.toList 3 128 191 with
        | false =>
          obtain rfl : n = 1 := by rw [← HN.out]; simp [h0, h1, h2, h3, h4, h5, h6, h7, s1, s2, s3]
          clear HN
          go_enter Tryd.func31, Tryd.ntmps31
          go_wp2_with (go_at_call 39; refine (in_any S _ _ _ (by decide) (by decide) (by decide) _).mono ?_; rintro _ _ ⟨rfl, rfl⟩)
          go_ret
          exact ⟨rfl, rfl⟩
        | true =>
          obtain rfl : n = 4 := by rw [← HN.out]; simp [h0, h1, h2, h3, h4, h5, h6, h7, s1, s2, s3]
          clear HN
          go_enter Tryd.func31, Tryd.ntmps31
          go_wp2_with (go_at_call 39; refine (in_any S _ _ _ (by decide) (by decide) (by decide) _).mono ?_; rintro _ _ ⟨rfl, rfl⟩)
          go_ret
          exact ⟨rfl, rfl⟩
  · cases s1 : LK.inr S.data.toList 1 128 143 with
    | false =>
      obtain rfl : n = 1 := by rw [← HN.out]; simp [h0, h1, h2, h3, h4, h5, h6, h7, s1]
      clear HN
      go_enter Tryd.func31, Tryd.ntmps31
      go_wp2_with (go_at_call 39; refine (in_any S _ _ _ (by decide) (by decide) (by decide) _).mono ?_; rintro _ _ ⟨rfl, rfl⟩)
      go_ret
      exact ⟨rfl, rfl⟩
    | true =>
      cases s2 : LK.inr S.data.toList 2 128 191 with
      | false =>
        obtain rfl : n = 1 := by rw [← HN.out]; simp [h0, h1, h2, h3, h4, h5, h6, h7, s1, s2]
        clear HN
        go_enter Tryd.func31, Tryd.ntmps31
        go_wp2_with (go_at_call 39; refine (in_any S _ _ _ (by decide) (by decide) (by decide) _).mono ?_; rintro _ _ ⟨rfl, rfl⟩)
        go_ret
        exact ⟨rfl, rfl⟩
      | true =>
        cases s3 : LK.inr S.data.toList 3 128 191 with
        | false =>
          obtain rfl : n = 1 := by rw [← HN.out]; simp [h0, h1, h2, h3, h4, h5, h6, h7, s1, s2, s3]
          clear HN
          go_enter Tryd.func31, Tryd.ntmps31
          go_wp2_with (go_at_call 39; refine (in_any S _ _ _ (by decide) (by decide) (by decide) _).mono ?_; rintro _ _ ⟨rfl, rfl⟩)
          go_ret
          exact ⟨rfl, rfl⟩
        | true =>
          obtain rfl : n = 4 := by rw [← HN.out]; simp [h0, h1, h2, h3, h4, h5, h6, h7, s1, s2, s3]
          clear HN
          go_enter Tryd.func31, Tryd.ntmps31
          go_wp2_with (go_at_call 39; refine (in_any S _ _ _ (by decide) (by decide) (by decide) _).mono ?_; rintro _ _ ⟨rfl, rfl⟩)
          go_ret
          exact ⟨rfl, rfl⟩
end Go.Proofs.YtgjgmaadogkjfaaDoor
