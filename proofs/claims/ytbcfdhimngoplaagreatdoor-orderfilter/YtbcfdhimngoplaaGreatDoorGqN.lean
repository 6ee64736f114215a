/-
  What belongs together: BoJ, BoK, BoL.
-/
import Derived.Test.YtbcfdhimngoplaaGreatDoorBoH
import Derived.Test.YtbcfdhimngoplaaGreatDoorBoI
import Derived.Test.YtbcfdhimngoplaaGreatDoorGqD
namespace Go.Proofs.YtbcfdhimngoplaaGreatDoor
open Go.ChangeShapes Go.WideShapes Go.ChangeAt Go.RowKit
set_option linter.unusedVariables false
set_option linter.unusedSimpArgs false
set_option maxRecDepth 100000
set_option maxHeartbeats 4000000
theorem symMerge_any (kv : Value) (ks : List BG.Ky) (B G : Nat) (hl : ks.length ≤ 1000) (n : Nat) (hn1 : n ≤ 1000) : ∀ N : Nat, SmIs kv ks B G n N
 | 0 => fun P X Y Q w hN h hk hf hX hY h0 h1 hn a m b ha hm hb => by
  have := List.length_pos_iff.2 h0
  omega
 | N + 1 => fun P X Y Q w hN h hk hf hX hY h0 h1 hn a m b ha hm hb => by
  have ih := symMerge_any kv ks B G hl n hn1 N
  by_cases q0 : X.length = 1
  ·
   obtain ⟨x, rfl⟩ := List.length_eq_one_iff.1 q0
   exact symMerge_first kv ks B G P x Y Q w h hk hf hl hY n hn hn1 a m b ha (by simpa using hm) (by simpa using hb)
  by_cases q1 : Y.length = 1
  ·
   obtain ⟨y, rfl⟩ := List.length_eq_one_iff.1 q1
   exact symMerge_last kv ks B G P X y Q w h hk hf hl hX q0 n hn hn1 a m b ha hm (by simpa using hb)
  by_cases hc : (a + b) / 2 < m
  · exact symMerge_lo kv ks B G hl n hn1 N ih P X Y Q w hN h hk hf hX hY h0 h1 hn a m b ha hm hb q0 q1 _ rfl hc
  · exact symMerge_hi kv ks B G hl n hn1 N ih P X Y Q w hN h hk hf hX hY h0 h1 hn a m b ha hm hb q0 q1 _ rfl hc
end Go.Proofs.YtbcfdhimngoplaaGreatDoor
namespace Go.Proofs.YtbcfdhimngoplaaGreatDoor
open Go.ChangeShapes Go.WideShapes Go.ChangeAt Go.RowKit
set_option linter.unusedVariables false
set_option linter.unusedSimpArgs false
set_option maxRecDepth 100000
set_option maxHeartbeats 2000000
theorem BO.sort_two {α : Type} {lt : α → α → Bool} (h : BO.Weak lt) (X Y : List α) : BO.sort lt (BO.sort lt X ++ BO.sort lt Y) = BO.sort lt (X ++ Y) := by
 refine BO.sort_eq h ⟨(BO.sort_of h _).sorted, fun z => ?_⟩
 rw [(BO.sort_of h _).same, List.filter_append, List.filter_append, (BO.sort_of h X).same, (BO.sort_of h Y).same]
theorem stable_long (kv : Value) (ks : List BG.Ky) (B G : Nat) (X Y : List Pr) (w : World) (h : SR w B G (X ++ Y)) (hk : ∀ w', w.grownBy w' (some G) → IsL cdY w' kv ks) (hf : ∀ p ∈ X ++ Y, Fit ks p.2) (hl : ks.length ≤ 1000) (n : Nat) (hn : n = X.length + Y.length) (hX : X.length = 20) (hn1 : n ≤ 40) :
  Calls Tryz.prog 59 #[.slice (some ⟨G, 0, none⟩) n n, .int .i64 (n : Int), .func (.func 29) #[kv] #[]] w fun e w' => e = .returned (.tuple #[]) ∧ SR w' B G (BO.sort (plt ks) (X ++ Y)) ∧ w.grownBy w' (some G) := by
 obtain ⟨S1, hS1⟩ : ∃ S, BO.sort (plt ks) X = S := ⟨_, rfl⟩
 obtain ⟨S2, hS2⟩ : ∃ S, BO.sort (plt ks) Y = S := ⟨_, rfl⟩
 obtain ⟨S, hS⟩ : ∃ S, BO.sort (plt ks) (X ++ Y) = S := ⟨_, rfl⟩
 have hS12 : BO.sort (plt ks) (S1 ++ S2) = S := by rw [← hS1, ← hS2, BO.sort_two (plt_weak ks), hS]
 have l1 : S1.length = 20 := by rw [← hS1, BO.sort_len, hX]
 have l2 : S2.length = Y.length := by rw [← hS2, BO.sort_len]
 have f1 : ∀ p ∈ S1 ++ S2, Fit ks p.2 := fun p hp => by
  refine hf p ?_
  rw [← hS1, ← hS2] at hp
  rcases List.mem_append.1 hp with hp | hp
  · exact List.mem_append_left _ ((BO.sort_perm _).mem_iff.1 hp)
  · exact List.mem_append_right _ ((BO.sort_perm _).mem_iff.1 hp)
 have HI1 := hideP (fun (W : World) (g : w.grownBy W (some G)) (hs : SR W B G (X ++ Y)) => show Calls Tryz.prog 76 #[.slice (some ⟨G, 0, none⟩) n n, .int .i64 0, .int .i64 20, .func (.func 29) #[kv] #[]] W fun e w' => e = .returned (.tuple #[]) ∧ SR w' B G (S1 ++ Y) ∧ W.grownBy w' (some G) by
  have := insSort_any kv ks B G [] X Y W (by simpa using hs) (fun w' g' => hk w' (grown_trans g g')) (fun p hp => hf p (List.mem_append_left _ hp)) hl n (by rw [hn]; simp) (by omega)
  rw [hS1] at this
  simp only [List.length_nil, Nat.zero_add, List.nil_append, hX] at this
  exact this)
 have HI2 := hideP (fun (W : World) (g : w.grownBy W (some G)) (hs : SR W B G (S1 ++ Y)) => show Calls Tryz.prog 76 #[.slice (some ⟨G, 0, none⟩) n n, .int .i64 20, .int .i64 (n : Int), .func (.func 29) #[kv] #[]] W fun e w' => e = .returned (.tuple #[]) ∧ SR w' B G (S1 ++ S2) ∧ W.grownBy w' (some G) by
  have := insSort_any kv ks B G S1 Y [] W (by simpa using hs) (fun w' g' => hk w' (grown_trans g g')) (fun p hp => hf p (List.mem_append_right _ hp)) hl n (by rw [hn, hX, List.length_append, List.length_append, l1]; simp) (by omega)
  rw [hS2] at this
  simp only [List.append_nil, l1] at this
  rw [show 20 + Y.length = n by omega] at this
  exact this)
 have HI3 := hideP (fun (W : World) (g : w.grownBy W (some G)) (hs : SR W B G (S1 ++ S2)) (h40 : n = 40) => show Calls Tryz.prog 76 #[.slice (some ⟨G, 0, none⟩) n n, .int .i64 40, .int .i64 (n : Int), .func (.func 29) #[kv] #[]] W fun e w' => e = .returned (.tuple #[]) ∧ SR w' B G (S1 ++ S2) ∧ W.grownBy w' (some G) by
  have hl12 : (S1 ++ S2).length = 40 := by rw [List.length_append, l1, l2]; omega
  have := insSort_any kv ks B G (S1 ++ S2) [] [] W (by simpa using hs) (fun w' g' => hk w' (grown_trans g g')) (fun p hp => by cases hp) hl n (by simp only [List.append_nil]; rw [hl12]; exact h40) (by omega)
  have e0 : BO.sort (plt ks) ([] : List Pr) = [] := rfl
  rw [e0] at this
  simp only [List.append_nil, hl12, List.length_nil, Nat.add_zero] at this
  rw [h40] at this ⊢
  exact this)
 have HI2b := hideP (fun (W : World) (g : w.grownBy W (some G)) (hs : SR W B G (S1 ++ Y)) (h40 : n = 40) => show Calls Tryz.prog 76 #[.slice (some ⟨G, 0, none⟩) n n, .int .i64 20, .int .i64 40, .func (.func 29) #[kv] #[]] W fun e w' => e = .returned (.tuple #[]) ∧ SR w' B G (S1 ++ S2) ∧ W.grownBy w' (some G) by
  have := HI2.out W g hs
  have e : (40 : Int) = (n : Int) := by omega
  rw [e]
  exact this)
 have HSm := hideP (fun (W : World) (g : w.grownBy W (some G)) (hs : SR W B G (S1 ++ S2)) (h20 : 20 < n) => show Calls Tryz.prog 77 #[.slice (some ⟨G, 0, none⟩) n n, .int .i64 0, .int .i64 20, .int .i64 (n : Int), .func (.func 29) #[kv] #[]] W fun e w' => e = .returned (.tuple #[]) ∧ SR w' B G S ∧ W.grownBy w' (some G) by
  have := symMerge_any kv ks B G hl n (by omega) (S1.length + S2.length) [] S1 S2 [] W (Nat.le_refl _) (by simpa using hs) (fun w' g' => hk w' (grown_trans g g')) (by simpa using f1) (by rw [← hS1]; exact (BO.sort_of (plt_weak ks) X).sorted) (by rw [← hS2]; exact (BO.sort_of (plt_weak ks) Y).sorted) (List.ne_nil_of_length_pos (by omega)) (List.ne_nil_of_length_pos (by omega)) (by simp only [List.nil_append, List.append_nil, List.length_append]; omega) 0 20 n rfl (by simp [l1]) (by simp; omega)
  rw [hS12] at this
  simpa using this)
 have HSmb := hideP (fun (W : World) (g : w.grownBy W (some G)) (hs : SR W B G (S1 ++ S2)) (h40 : n = 40) => show Calls Tryz.prog 77 #[.slice (some ⟨G, 0, none⟩) n n, .int .i64 0, .int .i64 20, .int .i64 40, .func (.func 29) #[kv] #[]] W fun e w' => e = .returned (.tuple #[]) ∧ SR w' B G S ∧ W.grownBy w' (some G) by
  have := HSm.out W g hs (by omega)
  have e : (40 : Int) = (n : Int) := by omega
  rw [e]
  exact this)
 have HE := hideP (show n = 20 → S1 ++ S2 = S from fun h20 => by
  have : Y = [] := List.length_eq_zero_iff.1 (by omega)
  subst this
  have e0 : BO.sort (plt ks) ([] : List Pr) = [] := rfl
  rw [e0] at hS2
  rw [← hS2, List.append_nil]
  rw [List.append_nil] at hS
  rw [← hS1, hS])
 rw [hS]
 obtain ⟨ka, kn, kc, rfl⟩ : ∃ a n c, kv = .slice a n c := by obtain ⟨a, c, h, _⟩ := hk w (grown_same w _); exact ⟨a, _, c, h⟩
 have H0 := hideP h
 have hn20 : 20 ≤ n := by omega
 have HN20 := hideP hn20
 clear hk hf h hn hX hl l1 l2 f1 hS hS1 hS2 hS12
 go_enter Tryz.func59, Tryz.ntmps59
 go_wp2_with fail
 go_loopw [7, 8] (fun av bv wr => ((av = .int .i64 0 ∧ bv = .int .i64 20 ∧ SR wr B G (X ++ Y)) ∨ (av = .int .i64 20 ∧ bv = .int .i64 40 ∧ SR wr B G (S1 ++ Y)) ∨ (n = 40 ∧ av = .int .i64 40 ∧ bv = .int .i64 60 ∧ SR wr B G (S1 ++ S2))) ∧ w.grownBy wr (some G)) (fun _ bv _ => 60 - (intOf bv).toNat)
 case atStart => exact ⟨.inl ⟨rfl, rfl, H0.out⟩, grown_same _ _⟩
 case round =>
  obtain ⟨hst, hg⟩ := hrel
  have HG := hideP hg
  clear hg
  have tail : ∀ w1 : World, True := fun _ => trivial
  rcases hst with ⟨rfl, rfl, hs⟩ | ⟨rfl, rfl, hs⟩ | ⟨h40, rfl, rfl, hs⟩
  ·
   have h1 : (20 : Int) ≤ (n : Int) := by omega
   have ci := HI1.out wr HG.out hs
   clear hs
   go_wp2_with fail
   refine ci.mono ?_
   rintro _ w1 ⟨rfl, hs1, hg1⟩
   have HS1 := hideP hs1
   have HG1 := hideP (grown_trans HG.out hg1)
   clear hs1 hg1 ci
   go_wp2_with fail
   go_roundw
   case rel => exact ⟨.inr (.inl ⟨rfl, rfl, HS1.out⟩), HG1.out⟩
   case measure => simp [intOf]
  ·
   by_cases h40 : n = 40
   ·
    have h1 : (40 : Int) ≤ (n : Int) := by omega
    have ci := HI2b.out wr HG.out hs h40
    have HN40 := hideP h40
    clear hs h40
    go_wp2_with fail
    refine ci.mono ?_
    rintro _ w1 ⟨rfl, hs1, hg1⟩
    have HS1 := hideP hs1
    have HG1 := hideP (grown_trans HG.out hg1)
    clear hs1 hg1 ci
    go_wp2_with fail
    go_roundw
    case rel => exact ⟨.inr (.inr ⟨HN40.out, rfl, rfl, HS1.out⟩), HG1.out⟩
    case measure => simp [intOf]
   ·
    have h1 : ¬ ((40 : Int) ≤ (n : Int)) := by omega
    have h2 : (n : Int) < 40 := by omega
    have ci := HI2.out wr HG.out hs
    have HNe := hideP (show n < 40 by omega)
    clear hs h40
    go_wp2_with fail
    refine ci.mono ?_
    rintro _ w1 ⟨rfl, hs1, hg1⟩
    have HS1 := hideP hs1
    have HG1 := hideP (grown_trans HG.out hg1)
    clear hs1 hg1 ci
    go_wp2_with fail
    obtain ⟨w0, rfl⟩ : ∃ x, x = wr := ⟨_, rfl⟩
    go_loopw [6, 7, 8, 9] (fun sv _ _ _ W => ((sv = .int .i64 20 ∧ SR W B G (S1 ++ S2)) ∨ (sv = .int .i64 40 ∧ SR W B G S)) ∧ w.grownBy W (some G)) (fun sv _ _ _ _ => 40 - (intOf sv).toNat)
    case atStart => exact ⟨.inl ⟨rfl, HS1.out⟩, HG1.out⟩
    case round =>
     obtain ⟨hst, hg⟩ := hrel
     have HGx := hideP hg
     clear hg
     rcases hst with ⟨rfl, hs⟩ | ⟨rfl, hs⟩
     ·
      by_cases h20 : n = 20
      ·
       have HSx := hideP (show SR wr B G S by rw [← HE.out h20]; exact hs)
       have h3 : ¬ ((20 : Int) < (n : Int)) := by omega
       clear hs h20
       go_wp2_with fail
       go_end0
       exact ⟨by first | rfl | trivial, HSx.out, HGx.out⟩
      ·
       have h3 : (20 : Int) < (n : Int) := by omega
       have ci := HSm.out wr HGx.out hs (by omega)
       have HNx := hideP (show 20 < n by omega)
       clear hs h20
       go_wp2_with fail
       obtain ⟨w9, rfl⟩ : ∃ x, x = wr := ⟨_, rfl⟩
       go_loopw [7, 8] (fun av bv W => av = .int .i64 0 ∧ bv = .int .i64 40 ∧ W = w9) (fun _ _ _ => 0)
       case atStart => exact ⟨rfl, rfl, rfl⟩
       case round =>
        obtain ⟨rfl, rfl, rfl⟩ := hrel
        go_wp2_with fail
        refine ci.mono ?_
        rintro _ w2 ⟨rfl, hs2, hg2⟩
        have HSx := hideP hs2
        have HGy := hideP (grown_trans HGx.out hg2)
        clear hs2 hg2 ci
        go_wp2_with fail
        go_roundw
        case rel => exact ⟨.inr ⟨rfl, HSx.out⟩, HGy.out⟩
        case measure => simp [intOf]
     ·
      have h3 : ¬ ((40 : Int) < (n : Int)) := by omega
      have HSx := hideP hs
      clear hs
      go_wp2_with fail
      go_end0
      exact ⟨by first | rfl | trivial, HSx.out, HGx.out⟩
  ·
   have ci := HI3.out wr HG.out hs h40
   have HN40 := hideP h40
   have h1 : ¬ ((60 : Int) ≤ (n : Int)) := by omega
   have h2 : (n : Int) < 60 := by omega
   have hq1 : (20 : Int) < (n : Int) := by omega
   have hq2 : (40 : Int) ≤ (n : Int) := by omega
   have hq3 : ¬ ((80 : Int) ≤ (n : Int)) := by omega
   have hq4 : ¬ ((60 : Int) < (n : Int)) := by omega
   have hq5 : ¬ ((40 : Int) < (n : Int)) := by omega
   clear hs h40
   go_wp2_with fail
   refine ci.mono ?_
   rintro _ w1 ⟨rfl, hs1, hg1⟩
   have HS1 := hideP hs1
   have HG1 := hideP (grown_trans HG.out hg1)
   clear hs1 hg1 ci
   go_wp2_with fail
   obtain ⟨w0, rfl⟩ : ∃ x, x = wr := ⟨_, rfl⟩
   go_loopw [6, 7, 8, 9] (fun sv _ _ _ W => ((sv = .int .i64 20 ∧ SR W B G (S1 ++ S2)) ∨ (sv = .int .i64 40 ∧ SR W B G S)) ∧ w.grownBy W (some G)) (fun sv _ _ _ _ => 40 - (intOf sv).toNat)
   case atStart => exact ⟨.inl ⟨rfl, HS1.out⟩, HG1.out⟩
   case round =>
    obtain ⟨hst, hg⟩ := hrel
    have HGx := hideP hg
    clear hg
    rcases hst with ⟨rfl, hs⟩ | ⟨rfl, hs⟩
    ·
     have HC := hideP (HSmb.out wr HGx.out hs HN40.out)
     clear hs
     go_wp2_with fail
     obtain ⟨w9, rfl⟩ : ∃ x, x = wr := ⟨_, rfl⟩
     go_loopw [7, 8] (fun av bv W => ((av = .int .i64 0 ∧ bv = .int .i64 40 ∧ W = w9) ∨ (av = .int .i64 40 ∧ bv = .int .i64 80 ∧ SR W B G S)) ∧ w.grownBy W (some G)) (fun _ bv _ => 80 - (intOf bv).toNat)
     case atStart => exact ⟨.inl ⟨rfl, rfl, rfl⟩, HGx.out⟩
     case round =>
      obtain ⟨hst, hg⟩ := hrel
      have HGy := hideP hg
      clear hg
      rcases hst with ⟨rfl, rfl, rfl⟩ | ⟨rfl, rfl, hs⟩
      ·
       have ci := HC.out
       go_wp2_with fail
       refine ci.mono ?_
       rintro _ w2 ⟨rfl, hs2, hg2⟩
       have HSx := hideP hs2
       have HGz := hideP (grown_trans HGy.out hg2)
       clear hs2 hg2 ci
       go_wp2_with fail
       go_roundw
       case rel => exact ⟨.inr ⟨rfl, rfl, HSx.out⟩, HGz.out⟩
       case measure => simp [intOf]
      ·
       have HSx := hideP hs
       clear hs
       go_wp2_with fail
       go_roundw
       case rel => exact ⟨.inr ⟨rfl, HSx.out⟩, HGy.out⟩
       case measure => simp [intOf]
    ·
     have HSx := hideP hs
     clear hs
     go_wp2_with fail
     go_end0
     exact ⟨by first | rfl | trivial, HSx.out, HGx.out⟩
theorem stable_any (kv : Value) (ks : List BG.Ky) (B G : Nat) (ps : List Pr) (w : World) (h : SR w B G ps) (hk : ∀ w', w.grownBy w' (some G) → IsL cdY w' kv ks) (hf : ∀ p ∈ ps, Fit ks p.2) (hl : ks.length ≤ 1000) (n : Nat) (hn : n = ps.length) (hn1 : n ≤ 40) :
  Calls Tryz.prog 59 #[.slice (some ⟨G, 0, none⟩) n n, .int .i64 (n : Int), .func (.func 29) #[kv] #[]] w fun e w' => e = .returned (.tuple #[]) ∧ SR w' B G (BO.sort (plt ks) ps) ∧ w.grownBy w' (some G) := by
 by_cases h20 : n < 20
 · exact stable_short kv ks B G ps w h hk hf hl n hn h20
 ·
  have e : ps = ps.take 20 ++ ps.drop 20 := (List.take_append_drop _ _).symm
  have lt : (ps.take 20).length = 20 := by rw [List.length_take]; omega
  have ld : (ps.drop 20).length = n - 20 := by rw [List.length_drop]; omega
  generalize ps.take 20 = X at *
  generalize ps.drop 20 = Y at *
  subst e
  exact stable_long kv ks B G X Y w h hk hf hl n (by omega) lt hn1
theorem sortStable_any (kv : Value) (ks : List BG.Ky) (B G : Nat) (ps : List Pr) (w : World) (h : SR w B G ps) (hk : ∀ w', w.grownBy w' (some G) → IsL cdY w' kv ks) (hf : ∀ p ∈ ps, Fit ks p.2) (hl : ks.length ≤ 1000) (n : Nat) (hn : n = ps.length) (hn1 : n ≤ 40) :
  Calls Tryz.prog 28 #[.slice (some ⟨G, 0, none⟩) n n, .func (.func 29) #[kv] #[]] w fun e w' => e = .returned (.tuple #[]) ∧ SR w' B G (BO.sort (plt ks) ps) ∧ w.grownBy w' (some G) := by
 have HI := hideP (stable_any kv ks B G ps w h hk hf hl n hn hn1)
 obtain ⟨ka, kn, kc, rfl⟩ : ∃ a n c, kv = .slice a n c := by obtain ⟨a, c, h, _⟩ := hk w (grown_same w _); exact ⟨a, _, c, h⟩
 clear hk hf h hn
 go_enter Tryz.func28, Tryz.ntmps28
 go_wp2_with fail
 refine HI.out.mono ?_
 rintro _ w1 ⟨rfl, hs1, hg1⟩
 have HS1 := hideP hs1
 have HG1 := hideP hg1
 clear hs1 hg1 HI
 go_wp2_with fail
 go_end0
 exact ⟨by first | rfl | trivial, HS1.out, HG1.out⟩
end Go.Proofs.YtbcfdhimngoplaaGreatDoor
namespace Go.Proofs.YtbcfdhimngoplaaGreatDoor
open Go.ChangeShapes Go.WideShapes Go.ChangeAt Go.RowKit
set_option linter.unusedVariables false
set_option linter.unusedSimpArgs false
set_option maxRecDepth 100000
set_option maxHeartbeats 2000000
theorem sort_any (v kv : Value) (ls : List (List VM.Vl)) (ks : List BG.Ky) (w : World) (h : IsRR w v ls) (hk : IsL cdY w kv ks) (hL : ls.length ≤ 9223372036854775806) (hR : ∀ r ∈ ls, r.length ≤ 9223372036854775806) (hK : ks.length ≤ 9223372036854775806) :
  Calls Tryz.prog 10 #[v, kv] w fun r w' => RA w.heap.size (BG.srt ls ks) r w' ∧ Fr w w' := by
 have HK : Hid (BG.srt ls ks = if BG.chk ls ≠ 0 then .error (BG.chk ls) else if 8 < ks.length then .error 2 else if ks.all (fun k => BG.hasC ls k.col) = false then .error 3 else .ok (BO.sort (BG.klt ks) ls)) := rfl
 have HCk := hideP (bagCheck_any v ls w h hL hR)
 have HHc := hideP (fun col W (f : Fr w W) => hasColumn_any v ls col W (h.fr f) hL)
 have HRl := hideP (fun (h0 : BG.chk ls = 0) => BG.chk_all h0)
 have HCp := hideP (fun (h0 : BG.chk ls = 0) W (f : Fr w W) => copied_any v ls W (h.fr f) (by have := (BG.chk_all h0).1; omega) (fun r hr => by have := ((BG.chk_all h0).2 r hr).1; omega))
 obtain ⟨a, c, rfl⟩ := h.slice
 have HY := hideP hk
 obtain ⟨ka, kc, rfl, hkc, hks⟩ := hk
 have HKs := hideP hks
 clear h hR hks
 generalize BG.srt ls ks = R at *
 by_cases h0 : BG.chk ls = 0
 case neg =>
  replace HK := hideP (HK.out.trans (if_pos h0))
  generalize BG.chk ls = z at *
  have e1 : ((z : Int) != 0) = true := by simp; omega
  have e2 : ¬ ((z : Int) = 0) := by omega
  go_enter Tryz.func10, Tryz.ntmps10
  go_wp2_with fail
  refine HCk.out.mono ?_
  rintro _ w1 ⟨rfl, f1⟩
  have F1 := hideP f1
  clear f1 HCk
  go_wp2_with fail
  go_ret2
  exact ⟨by rw [HK.out]; rfl, F1.out⟩
 replace HK := hideP (HK.out.trans (if_neg (by simpa using h0)))
 have h40 := (HRl.out h0).1
 have HAl := hideP (HRl.out h0).2
 replace HCp := hideP (HCp.out h0)
 rw [h0] at HCk
 clear HRl h0
 by_cases h8 : 8 < ks.length
 ·
  replace HK := hideP (HK.out.trans (if_pos h8))
  have h8' : (8 : Int) < (ks.length : Int) := by omega
  go_enter Tryz.func10, Tryz.ntmps10
  go_wp2_with fail
  refine HCk.out.mono ?_
  rintro _ w1 ⟨rfl, f1⟩
  have F1 := hideP f1
  clear f1 HCk
  go_wp2_with fail
  go_ret2
  exact ⟨by rw [HK.out]; rfl, F1.out⟩
 replace HK := hideP (HK.out.trans (if_neg h8))
 have h8' : ¬ (8 : Int) < (ks.length : Int) := by omega
 have h8n : ks.length ≤ 8 := by omega
 clear h8
 go_enter Tryz.func10, Tryz.ntmps10
 go_wp2_with fail
 refine HCk.out.mono ?_
 rintro _ w1 ⟨rfl, f1⟩
 have F1 := hideP f1
 clear f1 HCk
 go_wp2_with fail
 clear h8'
 go_loopw [8, 20] (fun _ iv wr => ∃ i : Nat, iv = .int .i64 i ∧ i ≤ ks.length ∧ ks.all (fun k => BG.hasC ls k.col) = (ks.drop i).all (fun k => BG.hasC ls k.col) ∧ Fr w wr) (fun _ iv _ => ks.length - (intOf iv).toNat)
 case atStart => exact ⟨0, rfl, Nat.zero_le _, rfl, F1.out⟩
 case round =>
  obtain ⟨i, rfl, hi, hal, hfr⟩ := hrel
  by_cases hlt : i < ks.length
  ·
   have hlt' : (i : Int) < (ks.length : Int) := by omega
   obtain ⟨bk, ok, rfl, hbk, hkat⟩ : ∃ b o, ka = some ⟨b, o, none⟩ ∧ b < w.heap.size ∧ At cdY w b o ks := by
    rcases HKs.out with h | h
    · rw [h] at hlt; simp at hlt
    · exact h
   obtain ⟨c0, c1⟩ := (hkat.fr hbk hfr).y2 i hlt
   rw [BG.all_drop hlt] at hal
   generalize ks[i] = y at *
   obtain ⟨col, ds⟩ := y
   simp only at c0 c1 hal
   have FA := hideP (hfr.alloc (.cells #[.int .i64 col, .bool ds] 46))
   have ch := HHc.out col _ FA.out
   have HAi := hideP hal
   generalize BG.hasC ls col = hc at *
   clear hal hfr hkat
   cases hc with
   | true =>
    go_wp2_with fail
    refine ch.mono ?_
    rintro _ w2 ⟨rfl, f2⟩
    have F2 := hideP (FA.out.trans f2)
    clear f2
    go_wp2_with fail
    go_roundw
    case rel => exact ⟨i + 1, by go_num, by omega, HAi.out.trans (by simp), F2.out⟩
    case measure => simp [intOf]; omega
   | false =>
    have HZ := hideP (HK.out.trans (if_pos (HAi.out.trans (by simp))))
    go_wp2_with fail
    refine ch.mono ?_
    rintro _ w2 ⟨rfl, f2⟩
    have F2 := hideP (FA.out.trans f2)
    clear f2
    go_wp2_with fail
    go_ret2
    exact ⟨by rw [HZ.out]; rfl, F2.out⟩
  ·
   obtain rfl : i = ks.length := by omega
   have hT : ks.all (fun k => BG.hasC ls k.col) = true := by rw [hal, List.drop_length]; rfl
   replace HK := hideP (HK.out.trans (if_neg (by rw [hT]; decide)))
   have cc := HCp.out wr hfr
   have HF := hideP hfr
   have HTt := hideP hT
   clear hal hfr hT
   go_wp2_with fail
   refine cc.mono ?_
   rintro _ w2 ⟨⟨u, rfl, hO⟩, f2⟩
   obtain ⟨G, ps, rfl, hps, hsr, hG⟩ := hO.sr
   have F2 := hideP (HF.out.trans f2)
   have hpl : ls.length = ps.length := by rw [← hps, List.length_map]
   have hGw : w.heap.size ≤ G := Nat.le_trans HF.out.size hG
   have hfit : ∀ p ∈ ps, Fit ks p.2 := fun p hp => by
    have hm : p.2 ∈ ls := by rw [← hps]; exact List.mem_map_of_mem hp
    obtain ⟨h8r, hca, hwd⟩ := HAl.out _ hm
    refine ⟨fun k hk => ?_, hca⟩
    have h1 := List.all_eq_true.1 HTt.out k hk
    unfold BG.hasC at h1
    have hne : ¬ ls.length = 0 := by intro e; rw [List.length_eq_zero_iff.1 e] at hm; cases hm
    simp only [hne, decide_false, Bool.false_or, Bool.and_eq_true, decide_eq_true_eq] at h1
    rw [hwd]
    exact h1
   have cs := sortStable_any (.slice ka ks.length kc) ks wr.heap.size G ps w2 hsr (fun w' g => isY_keep HY.out F2.out hGw g) hfit (by omega) ls.length hpl (by omega)
   have HPl := hideP hpl
   have HPs := hideP hps
   clear hpl hps hsr hfit hO f2 cc
   go_wp2_with fail
   refine cs.mono ?_
   rintro _ w3 ⟨rfl, hs3, hg3⟩
   have hsl : (BO.sort (plt ks) ps).length = ls.length := by rw [BO.sort_len, HPl.out]
   have hmp : (BO.sort (plt ks) ps).map (·.2) = BO.sort (BG.klt ks) ls := by
    have := BO.map_sort (lt := BG.klt ks) (fun p : Pr => p.2) ps
    rw [HPs.out] at this
    exact this
   have hor := hs3.orr hG (by rw [hsl]; unfold maxLen; omega)
   rw [hsl, hmp] at hor
   have HO3 := hideP (hor.low HF.out.size)
   have F3 := hideP (show Fr w w3 from Below.grown F2.out hg3 F2.out.size (fun k hk => by injection hk with hk; omega))
   clear hs3 hg3 hor hsl hmp
   go_wp2_with fail
   go_ret2
   exact ⟨by rw [HK.out]; exact ⟨_, rfl, HO3.out⟩, F3.out⟩
end Go.Proofs.YtbcfdhimngoplaaGreatDoor
