/-
  What the document's own FillOf answers of right entries.
-/
import Derived.Test.YthpcdhnaibpjnaaRefEB
import Derived.Test.YthpcdhnaibpjnaaLfFN
import Derived.Test.YthpcdhnaibpjnaaLfBg
import Derived.Test.YthpcdhnaibpjnaaLfH
import Derived.Laws.AppendOwnNone
import Derived.Deep.RegionLaw
namespace Go.Proofs.Ythpcdhnaibpjnaa
open Go.ChangeShapes Go.WideShapes Go.ChangeAt Go.RowKit
set_option linter.unusedVariables false
set_option linter.unusedSimpArgs false
set_option maxRecDepth 100000

theorem EnAt.take {w : World} {b o : Nat} {l : List LF.En} (h : EnAt w b o l) (n : Nat) : EnAt w b o (l.take n) := by
  intro i hi
  rw [List.length_take] at hi
  obtain ⟨h0, v, h1, h2⟩ := h i (by omega)
  rw [List.getElem_take]
  exact ⟨h0, v, h1, h2⟩
theorem EnAt.drop {w : World} {b o : Nat} {l : List LF.En} (h : EnAt w b o l) (n : Nat) : EnAt w b (o + n * 2) (l.drop n) := by
  intro i hi
  rw [List.length_drop] at hi
  obtain ⟨h0, v, h1, h2⟩ := h (n + i) (by omega)
  rw [List.getElem_drop, show o + n * 2 + i * 2 = o + (n + i) * 2 by omega]
  exact ⟨h0, v, h1, h2⟩
theorem step_append_none {P : Program} {ops : Array Oper} {o : Oper} {a : Act} {w : World} {K : Act → World → Prop} {Q : Exit → Act → World → Prop} {E : Prop}
    (hg : o.guard = none) (s x : Operand) (t : TypeId) (hop : o.op = Op.call { callee := Callee.builtin Builtin.append, args := #[s, x], argTypes := #[t, t] })
    (base : Nat) (e : TypeId) (i : TypeInfo) (size : Nat) (ht : P.underlying t = some (.slice e)) (hi : P.info? e = some i)
    (v : Value) (n : Nat) (xs : List Value) (hs : a.eval s = v) (hown : w.ownsRow base e size v n xs) (hx : a.eval x = .slice none 0 0)
    (hK : K (a.put o.dst v) w) :
    if Region.wanted o (yielded ops a.tmps) = true then Oper.wp P o a w K Q else E := by
  have hw : Region.wanted o (yielded ops a.tmps) = true := by simp [Region.wanted, hg]
  rw [if_pos hw]
  have hrun := run_append_owned_none (P := P) (w := w) base t o.type e i size ht hi v n xs hown
  unfold Oper.wp
  simp [execOp, hop, resolve, invoke, builtin, hs, hx, hrun, Result.andThen]
  exact hK
/-- what FillOf answers; the lists lie in what was handed in -/
def FoAs (w0 : World) (L : List (List LF.En)) (e : Ending) (w' : World) : Prop :=
  ∃ (a : Option Addr) (k : Nat) (vals : List Value), e = .returned (.slice a L.length k) ∧ vals.length = L.length ∧ (∀ i (h : i < L.length) (h2 : i < vals.length), IsEn w0 vals[i] L[i]) ∧
    ((L = [] ∧ a = none ∧ k = 0) ∨ L ≠ [] ∧ ∃ b o, a = some ⟨b, o, none⟩ ∧ b < w'.heap.size ∧ ∀ j u, vals[j]? = some u → w'.cell? ⟨b, o + j, none⟩ = some u)
theorem lit_own (W : World) (lv : Value) : (W.alloc (.cells #[lv] 22)).ownsRow W.heap.size 22 1 (.slice (some ⟨W.heap.size, 0, none⟩) 1 1) 1 [lv] :=
  ⟨rfl, Or.inr ⟨W.heap.size, 1, #[lv], rfl, Nat.le_refl _, alloc_heap W _, Nat.le_refl _, by unfold maxLen; omega, rfl, rfl⟩⟩
theorem own_fr {w w' : World} {base : Nat} {e : TypeId} {size : Nat} {v : Value} {n : Nat} {xs : List Value} (h : w.ownsRow base e size v n xs) (f : Fr w w') : w'.ownsRow base e size v n xs := own_keep h fun k cur _ hk => f.block k (Array.getElem?_eq_some_iff.1 hk).1
theorem fill_len : ∀ (l : List LF.En), (LF.fill l).length ≤ l.length := by
  intro l
  have key : ∀ (k : List LF.En) (room : Nat) (last : List LF.En), (LF.fl1 room last k).length ≤ 1 + k.length := by
    intro k
    induction k with
    | nil => intro _ _; simp [LF.fl1]
    | cons e k ih =>
      intro room last
      rw [LF.fl1_cons]
      split
      · have := ih (244 - (LF.eb e).length) [e]
        simp only [List.length_cons]
        omega
      · have := ih (room - (LF.eb e).length) (last ++ [e])
        simp only [List.length_cons]
        omega
  cases l with
  | nil => simp [LF.fill, LF.fl]
  | cons e l =>
    rw [LF.fill_cons]
    have := key l (244 - (LF.eb e).length) [e]
    simp only [List.length_cons]
    omega
theorem isEn_one {w : World} {v : Value} {l : List LF.En} (h : IsEn w v l) : v.oneCell' = true := by
  obtain ⟨a, cap, rfl, _⟩ := h
  rfl
theorem vals_one {w : World} {vals : List Value} {L : List (List LF.En)} (hl : vals.length = L.length) (h : ∀ i (h : i < L.length) (h2 : i < vals.length), IsEn w vals[i] L[i]) : ∀ u ∈ vals, u.oneCell' = true := by
  intro u hu
  obtain ⟨i, hi, rfl⟩ := List.getElem_of_mem hu
  exact isEn_one (h i (by omega) hi)
/-- a list in front -/
theorem foAs_mk {w0 w5 : World} {B : Nat} {v5 lv : Value} {vals : List Value} {p : List LF.En} {L : List (List LF.En)} (hlv : IsEn w0 lv p) (hl : vals.length = L.length) (h : ∀ i (h : i < L.length) (h2 : i < vals.length), IsEn w0 vals[i] L[i])
    (ho : w5.ownsRow B 22 1 v5 (1 + L.length) ([lv] ++ vals)) : FoAs w0 (p :: L) (.returned v5) w5 := by
  rcases ho.2 with ⟨_, e⟩ | ⟨g, cap, cur, e1, e2, e3, e4, e5, e6, e7⟩
  · omega
  · refine ⟨some ⟨g, 0, none⟩, cap, lv :: vals, by rw [e1, List.length_cons, Nat.add_comm], by simp [hl], ?_, Or.inr ⟨by simp, g, 0, rfl, (Array.getElem?_eq_some_iff.1 e3).1, ?_⟩⟩
    · intro i h1 h2
      cases i with
      | zero => exact hlv
      | succ i => exact h i (by simpa using h1) (by simpa using h2)
    · intro j u hu
      rw [Nat.zero_add, Lib.cell_of_heap e3]
      have hu' : ([lv] ++ vals)[j]? = some u := hu
      rw [← e7, List.getElem?_take] at hu'
      split at hu'
      · rw [← hu', Array.getElem?_toList]
      · cases hu'

set_option maxHeartbeats 1000000 in
theorem fillOf_any : ∀ (N : Nat) (v : Value) (l : List LF.En) (w0 w : World), l.length ≤ N → Fr w0 w → IsEn w0 v l → (∀ a n c, v = .slice a n c → n ≤ c) → l.length ≤ 40 → Right l →
    Calls Try.prog 18 #[v] w fun e w' => FoAs w0 (LF.fill l) e w' ∧ Fr w w' := by
  intro N
  induction N with
  | zero =>
    intro v l w0 w hN hf hv hcap h40 hr
    obtain rfl := List.eq_nil_of_length_eq_zero (Nat.le_zero.1 hN)
    obtain ⟨a, cap, rfl, _⟩ := hv
    clear hcap
    go_enter Try.func18, Try.ntmps18
    go_wp2_with fail
    go_ret
    exact ⟨⟨none, 0, [], rfl, rfl, fun i h => absurd h (Nat.not_lt_zero _), Or.inl ⟨rfl, rfl, rfl⟩⟩, Fr.refl _⟩
  | succ N ih =>
    intro v l w0 w hN hf hv hcap h40 hr
    by_cases hne : l = []
    · subst hne
      obtain ⟨a, cap, rfl, _⟩ := hv
      clear hcap ih
      go_enter Try.func18, Try.ntmps18
      go_wp2_with fail
      go_ret
      exact ⟨⟨none, 0, [], rfl, rfl, fun i h => absurd h (Nat.not_lt_zero _), Or.inl ⟨rfl, rfl, rfl⟩⟩, Fr.refl _⟩
    · obtain ⟨i1, hi1, hy0, hy1, hy2⟩ := info_parts Try.infoEns
      obtain ⟨a, cap, rfl, hcs⟩ := hv
      obtain ⟨b, o, rfl, hb, hc⟩ : ∃ b o, a = some ⟨b, o, none⟩ ∧ b < w0.heap.size ∧ EnAt w0 b o l := by
        rcases hcs with h | h
        · exact absurd h hne
        · exact h
      have hlc : l.length ≤ cap := hcap _ _ _ rfl
      have heb : ∀ e ∈ l, (LF.eb e).length ≤ 244 := fun e he => by
        obtain ⟨h1, h2⟩ := hr e he
        have h3 : (NM.enc (WM.zig e.1)).length ≤ 10 := NM.enc_ten (LF.zig_lt h2)
        have h4 := LF.row_len h1 h2.2
        unfold LF.eb
        rw [List.length_append]
        omega
      have hn1 := LF.nx_pos hne
      have hn2 := LF.nx_le l
      have hpos : 0 < l.length := by omega
      have hfits := LF.nx_fits heb
      have hmax := fun m => @LF.nx_max l heb m
      have hfx := LF.fill_nx hne
      generalize hnx : LF.nx l = nx at *
      have hen : ∀ m, m ≤ l.length → IsEn w0 (.slice (some ⟨b, o, none⟩) m cap) (l.take m) := fun m hm => ⟨_, cap, by rw [List.length_take, Nat.min_eq_left hm], Or.inr ⟨b, o, rfl, hb, hc.take m⟩⟩
      have hby : ∀ m W, m ≤ l.length → Fr w W → Calls Try.prog 11 #[.slice (some ⟨b, o, none⟩) m cap] W fun e w' => (∃ S : ByteArray, e = .returned (.string S) ∧ S.size = 1 + LF.sm (l.take m) ∧ S.size ≤ 10000) ∧ Fr W w' := fun m W hm fW => by
        have hml : (l.take m).length ≤ 40 := by rw [List.length_take]; omega
        refine (entriesBytes_any _ (l.take m) W ((hen m hm).fr (hf.trans fW)) hml (fun e he => hr e (List.mem_of_mem_take he))).mono ?_
        rintro e w' ⟨rfl, f'⟩
        refine ⟨⟨_, rfl, by rw [mk_size, LF.bytes_len hml], ?_⟩, f'⟩
        rw [mk_size, LF.bytes_len hml]
        have key : ∀ k : List LF.En, (∀ e ∈ k, (LF.eb e).length ≤ 244) → LF.sm k ≤ 244 * k.length := by
          intro k
          induction k with
          | nil => intro _; simp [LF.sm]
          | cons e k ihk =>
            intro hk
            have h1 := hk e (by simp)
            have h2 := ihk (fun x hx => hk x (by simp [hx]))
            rw [LF.sm_cons, List.length_cons]
            omega
        have := key (l.take m) (fun e he => heb e (List.mem_of_mem_take he))
        omega
      have hlz : ((l.length : Int) == 0) = false := by simp; omega
      have hlz2 : ¬ ((l.length : Int) = 0) := by omega
      have HBY := hideP hby
      have HEN := hideP hen
      have HMAX := hideP hmax
      have HFIT := hideP hfits
      have HFX := hideP hfx
      have HC := hideP hc
      have HIH := hideP ih
      have HR := hideP hr
      have HFW := hideP hf
      clear hby hen hmax hfits hfx hc ih hr hf hcap heb hcs hnx
      go_enter Try.func18, Try.ntmps18
      go_wp2_with fail
      go_loopw [3] (fun nv wr => ∃ n : Nat, nv = .int .i64 n ∧ nx ≤ n ∧ n ≤ l.length ∧ Fr w wr) (fun nv _ => (intOf nv).toNat)
      case atStart => exact ⟨l.length, rfl, hn2, Nat.le_refl _, Fr.refl _⟩
      case round =>
        obtain ⟨n, rfl, hnn, hnl, hfr⟩ := hrel
        have hby := HBY.out n wr hnl hfr
        have HFR := hideP hfr
        have hncI : (n : Int) ≤ (cap : Int) := by omega
        have hnc : n ≤ cap := by omega
        clear hfr
        by_cases hgt : nx < n
        · have h1 : (1 : Int) < (n : Int) := by omega
          have hbig := HMAX.out n hgt hnl
          have HM1 : Hid (Value.int .i64 ((n : Int) - 1) = .int .i64 ((n - 1 : Nat) : Int)) := by unfold Hid; congr 1; omega
          go_wp2_with fail
          refine hby.mono ?_
          rintro _ w2 ⟨⟨S, rfl, hS, hS2⟩, f2⟩
          have hS3 : (245 : Int) < (S.size : Int) := by omega
          have F2 := hideP (Fr.trans HFR.out f2)
          clear hby f2
          go_wp2_with fail
          go_roundw
          case rel => exact ⟨n - 1, HM1.out, by omega, by omega, F2.out⟩
          case measure => simp [intOf]; omega
        · obtain rfl : n = nx := by omega
          by_cases hn1 : n = 1
          · have ht : (1 < (n : Int)) = False := by simp; omega
            have ht2 : (1 < n) = False := by simp; omega
            have hlnI : (n : Int) ≤ (l.length : Int) := by omega
            have HN1 := hideP hn1
            clear hn1 hby hgt
            by_cases hcn : cap = n
            · obtain rfl : n = cap := hcn.symm
              have hdn : l.drop n = [] := List.drop_of_length_le (by omega)
              have hrec : ∀ c' W2, Fr wr W2 → l.length - n ≤ c' → Calls Try.prog 18 #[.slice (some ⟨b, o, none⟩) (l.length - n) c'] W2 fun e w' => FoAs w0 (LF.fill (l.drop n)) e w' ∧ Fr W2 w' := fun c' W2 f2 hc2 => HIH.out _ (l.drop n) w0 W2 (by rw [List.length_drop]; omega) (HFW.out.trans (HFR.out.trans f2)) (by
                refine ⟨_, c', by rw [List.length_drop], ?_⟩
                exact Or.inl (List.drop_of_length_le (by omega))
                ) (fun a' n' c2 e => by simp only [Value.slice.injEq] at e; omega) (by rw [List.length_drop]; omega) (fun e he => HR.out e (List.mem_of_mem_drop he))
              have HLV := hideP (HEN.out n hnl)
              have HLO := hideP (lit_own wr (.slice (some ⟨b, o, none⟩) n n))
              have hL2 : LF.fill (l.drop n) = [] := by rw [hdn]; rfl
              have HL2 := hideP hL2
              rw [hL2] at hrec
              have hln : (l.length - n : Nat) = 0 := by have := congrArg List.length hdn; rw [List.length_drop, List.length_nil] at this; exact this
              rw [hln] at hrec
              have hlI : (l.length : Int) - (n : Int) = 0 := by omega
              clear hL2 hdn
              have hrecN : ∀ c' W2, Fr wr W2 → Calls Try.prog 18 #[.slice (some ⟨b, o, none⟩) 0 c'] W2 fun e w' => e = .returned (.slice none 0 0) ∧ Fr W2 w' := fun c' W2 f2 => (hrec c' W2 f2 (Nat.zero_le _)).mono fun e w' h => by
                obtain ⟨⟨a9, k9, vals, rfl, _, _, h9⟩, hf9⟩ := h
                rcases h9 with ⟨_, rfl, rfl⟩ | ⟨h9, _⟩
                · exact ⟨rfl, hf9⟩
                · exact absurd rfl h9
              clear hrec
              go_wp2_with fail
              go_region_law (first | (refine step_append_none rfl _ _ 36 rfl wr.heap.size 22 i1 1 Try.underlying36 hi1 _ 1 [(.slice (some ⟨b, o, none⟩) n n)] rfl HOWA.out rfl ?_) | (refine step_append_none rfl _ _ 36 rfl w3.heap.size 22 i1 1 Try.underlying36 hi1 _ 1 [(.slice (some ⟨b, o, none⟩) n n)] rfl HOWB.out rfl ?_) | (go_simp; go_wp2_with (go_at_call 18; refine (hrecN _ _ (by first | exact Fr.refl _ | exact Fr.drew (Fr.refl _) | exact Fr.alloc (Fr.refl _) _ | exact Fr.drew (Fr.alloc (Fr.refl _) _))).mono ?_; rintro _ w3 ⟨rfl, f3⟩; have F3 : Hid (Fr wr w3) := (by first | exact f3 | exact Fr.trans (Fr.drew (Fr.refl _)) f3 | exact Fr.trans (Fr.alloc (Fr.refl _) _) f3 | exact Fr.trans (Fr.drew (Fr.alloc (Fr.refl _) _)) f3); have HOWB := hideP (lit_own w3 (.slice (some ⟨b, o, none⟩) n n)); try have HOWA : Hid (w3.ownsRow wr.heap.size 22 1 (.slice (some ⟨wr.heap.size, 0, none⟩) 1 1) 1 [(.slice (some ⟨b, o, none⟩) n n)]) := own_fr HLO.out (by first | exact f3 | exact Fr.trans (Fr.drew (Fr.refl _)) f3); clear f3)))
              all_goals
                go_wp2_with fail
                go_ret
                refine ⟨?_, (by first | exact Fr.trans HFR.out F3.out | exact Fr.alloc (Fr.trans HFR.out F3.out) _)⟩
                rw [HFX.out, HL2.out]
                exact foAs_mk HLV.out (vals := []) rfl (fun i h => absurd h (Nat.not_lt_zero _)) (by first | exact HOWA.out | exact HOWB.out)
            · by_cases hdn : l.drop n = []
              · have hrec : ∀ c' W2, Fr wr W2 → l.length - n ≤ c' → Calls Try.prog 18 #[.slice (some ⟨b, o + n * 2, none⟩) (l.length - n) c'] W2 fun e w' => FoAs w0 (LF.fill (l.drop n)) e w' ∧ Fr W2 w' := fun c' W2 f2 hc2 => HIH.out _ (l.drop n) w0 W2 (by rw [List.length_drop]; omega) (HFW.out.trans (HFR.out.trans f2)) (by
                  refine ⟨_, c', by rw [List.length_drop], ?_⟩
                  exact Or.inr ⟨b, o + n * 2, rfl, hb, HC.out.drop n⟩
                  ) (fun a' n' c2 e => by simp only [Value.slice.injEq] at e; omega) (by rw [List.length_drop]; omega) (fun e he => HR.out e (List.mem_of_mem_drop he))
                have HLV := hideP (HEN.out n hnl)
                have HLO := hideP (lit_own wr (.slice (some ⟨b, o, none⟩) n cap))
                have hL2 : LF.fill (l.drop n) = [] := by rw [hdn]; rfl
                have HL2 := hideP hL2
                rw [hL2] at hrec
                have hln : (l.length - n : Nat) = 0 := by have := congrArg List.length hdn; rw [List.length_drop, List.length_nil] at this; exact this
                rw [hln] at hrec
                have hlI : (l.length : Int) - (n : Int) = 0 := by omega
                clear hL2 hdn
                have hrecN : ∀ c' W2, Fr wr W2 → Calls Try.prog 18 #[.slice (some ⟨b, o + n * 2, none⟩) 0 c'] W2 fun e w' => e = .returned (.slice none 0 0) ∧ Fr W2 w' := fun c' W2 f2 => (hrec c' W2 f2 (Nat.zero_le _)).mono fun e w' h => by
                  obtain ⟨⟨a9, k9, vals, rfl, _, _, h9⟩, hf9⟩ := h
                  rcases h9 with ⟨_, rfl, rfl⟩ | ⟨h9, _⟩
                  · exact ⟨rfl, hf9⟩
                  · exact absurd rfl h9
                clear hrec
                go_wp2_with fail
                go_region_law (first | (refine step_append_none rfl _ _ 36 rfl wr.heap.size 22 i1 1 Try.underlying36 hi1 _ 1 [(.slice (some ⟨b, o, none⟩) n cap)] rfl HOWA.out rfl ?_) | (refine step_append_none rfl _ _ 36 rfl w3.heap.size 22 i1 1 Try.underlying36 hi1 _ 1 [(.slice (some ⟨b, o, none⟩) n cap)] rfl HOWB.out rfl ?_) | (go_simp; go_wp2_with (go_at_call 18; refine (hrecN _ _ (by first | exact Fr.refl _ | exact Fr.drew (Fr.refl _) | exact Fr.alloc (Fr.refl _) _ | exact Fr.drew (Fr.alloc (Fr.refl _) _))).mono ?_; rintro _ w3 ⟨rfl, f3⟩; have F3 : Hid (Fr wr w3) := (by first | exact f3 | exact Fr.trans (Fr.drew (Fr.refl _)) f3 | exact Fr.trans (Fr.alloc (Fr.refl _) _) f3 | exact Fr.trans (Fr.drew (Fr.alloc (Fr.refl _) _)) f3); have HOWB := hideP (lit_own w3 (.slice (some ⟨b, o, none⟩) n cap)); try have HOWA : Hid (w3.ownsRow wr.heap.size 22 1 (.slice (some ⟨wr.heap.size, 0, none⟩) 1 1) 1 [(.slice (some ⟨b, o, none⟩) n cap)]) := own_fr HLO.out (by first | exact f3 | exact Fr.trans (Fr.drew (Fr.refl _)) f3); clear f3)))
                all_goals
                  go_wp2_with fail
                  go_ret
                  refine ⟨?_, (by first | exact Fr.trans HFR.out F3.out | exact Fr.alloc (Fr.trans HFR.out F3.out) _)⟩
                  rw [HFX.out, HL2.out]
                  exact foAs_mk HLV.out (vals := []) rfl (fun i h => absurd h (Nat.not_lt_zero _)) (by first | exact HOWA.out | exact HOWB.out)
              · have hrec : ∀ c' W2, Fr wr W2 → l.length - n ≤ c' → Calls Try.prog 18 #[.slice (some ⟨b, o + n * 2, none⟩) (l.length - n) c'] W2 fun e w' => FoAs w0 (LF.fill (l.drop n)) e w' ∧ Fr W2 w' := fun c' W2 f2 hc2 => HIH.out _ (l.drop n) w0 W2 (by rw [List.length_drop]; omega) (HFW.out.trans (HFR.out.trans f2)) (by
                  refine ⟨_, c', by rw [List.length_drop], ?_⟩
                  exact Or.inr ⟨b, o + n * 2, rfl, hb, HC.out.drop n⟩
                  ) (fun a' n' c2 e => by simp only [Value.slice.injEq] at e; omega) (by rw [List.length_drop]; omega) (fun e he => HR.out e (List.mem_of_mem_drop he))
                have HLV := hideP (HEN.out n hnl)
                have HLO := hideP (lit_own wr (.slice (some ⟨b, o, none⟩) n cap))
                have hL2 : LF.fill (l.drop n) ≠ [] := by rw [LF.fill_nx hdn]; simp
                have HL2n := hideP hL2
                have hLL : (LF.fill (l.drop n)).length ≤ 40 := by have := fill_len (l.drop n); rw [List.length_drop] at this; omega
                generalize hLF : LF.fill (l.drop n) = L2 at *
                have HLF := hideP hLF
                clear hL2 hdn hLF
                have hrecS : ∀ c' W2, Fr wr W2 → l.length - n ≤ c' → Calls Try.prog 18 #[.slice (some ⟨b, o + n * 2, none⟩) (l.length - n) c'] W2 fun e w' => (∃ (b3 o3 k3 : Nat) (vals : List Value), e = .returned (.slice (some ⟨b3, o3, none⟩) L2.length k3) ∧ vals.length = L2.length ∧ (∀ i (h : i < L2.length) (h2 : i < vals.length), IsEn w0 vals[i] L2[i]) ∧ b3 < w'.heap.size ∧ ∀ j u, vals[j]? = some u → w'.cell? ((⟨b3, o3, none⟩ : Addr).add j) = some u) ∧ Fr W2 w' := fun c' W2 f2 hc2 => (hrec c' W2 f2 hc2).mono fun e w' h => by
                  obtain ⟨⟨a9, k9, vals, rfl, h1, h2, h9⟩, hf9⟩ := h
                  rcases h9 with ⟨h9, _, _⟩ | ⟨_, b3, o3, rfl, h3, h4⟩
                  · exact absurd h9 HL2n.out
                  · exact ⟨⟨b3, o3, k9, vals, rfl, h1, h2, h3, fun j u hu => by rw [add_at _ _ rfl]; exact h4 j u hu⟩, hf9⟩
                clear hrec
                have hcm : l.length - n ≤ cap - n := by omega
                have hw0 := hideP HFW.out
                go_wp2_with fail
                go_region_law (first | (refine step_append_own_at rfl _ _ 36 rfl wr.heap.size 22 i1 (.slice none 0 0) 1 24 Try.underlying36 hi1 hy0 hy1 hy2 rfl (by decide) _ 1 [(.slice (some ⟨b, o, none⟩) n cap)] rfl HOWA.out ⟨b3, o3, none⟩ L2.length k3 vals rfl HVL.out HNA.out HVO.out (by unfold maxLen; omega) (by omega) (Fr.size F3.out) ?_; intro v5 w5 hown5 hgrow5 _; have HFO := hideP (foAs_mk HLV.out HVL2.out HVE.out hown5); have F5 : Hid (Fr wr w5) := (Below.grown F3.out hgrow5 (Fr.size F3.out) (fun k hk => (HOWA.out.lt k hk).1)); obtain ⟨g5, c5, hv5⟩ := own_shape (n := L2.length) (by rw [Nat.add_comm] at hown5; exact hown5); subst hv5; clear hown5 hgrow5) | (refine step_append_own_at rfl _ _ 36 rfl w3.heap.size 22 i1 (.slice none 0 0) 1 24 Try.underlying36 hi1 hy0 hy1 hy2 rfl (by decide) _ 1 [(.slice (some ⟨b, o, none⟩) n cap)] rfl HOWB.out ⟨b3, o3, none⟩ L2.length k3 vals rfl HVL.out HNB.out HVO.out (by unfold maxLen; omega) (by omega) HSB.out ?_; intro v5 w5 hown5 hgrow5 _; have HFO := hideP (foAs_mk HLV.out HVL2.out HVE.out hown5); have F5 : Hid (Fr wr w5) := (Below.grown (Fr.alloc F3.out _) hgrow5 (Nat.le_trans (Fr.size F3.out) HSB.out) (fun k hk => Nat.le_trans (Fr.size F3.out) (HOWB.out.lt k hk).1)); obtain ⟨g5, c5, hv5⟩ := own_shape (n := L2.length) (by rw [Nat.add_comm] at hown5; exact hown5); subst hv5; clear hown5 hgrow5) | (go_simp; go_wp2_with (go_at_call 18; refine (hrecS _ _ (by first | exact Fr.refl _ | exact Fr.drew (Fr.refl _) | exact Fr.alloc (Fr.refl _) _ | exact Fr.drew (Fr.alloc (Fr.refl _) _)) (by omega)).mono ?_; rintro _ w3 ⟨⟨b3, o3, k3, vals, rfl, hvl, hve, hb3, hc3⟩, f3⟩; have F3 : Hid (Fr wr w3) := (by first | exact f3 | exact Fr.trans (Fr.drew (Fr.refl _)) f3 | exact Fr.trans (Fr.alloc (Fr.refl _) _) f3 | exact Fr.trans (Fr.drew (Fr.alloc (Fr.refl _) _)) f3); have HOWB := hideP (lit_own w3 (.slice (some ⟨b, o, none⟩) n cap)); have HVL : Hid (vals.length = L2.length * 1) := (by rw [Nat.mul_one]; exact hvl); have HVL2 := hideP hvl; have HVE := hideP hve; have HVO := hideP (vals_one hvl hve); have HNA := hideP hc3; have HNB : Hid (∀ j u, vals[j]? = some u → (w3.alloc (.cells #[(.slice (some ⟨b, o, none⟩) n cap)] 22)).cell? ((⟨b3, o3, none⟩ : Addr).add j) = some u) := (fun j u hu => by rw [add_at _ _ rfl]; have h := hc3 j u hu; rw [add_at _ _ rfl] at h; exact (Below.cell ((Fr.refl w3).alloc _) hb3).trans h); have HSB : Hid (w3.heap.size ≤ (w3.alloc (.cells #[(.slice (some ⟨b, o, none⟩) n cap)] 22)).heap.size) := (Fr.size ((Fr.refl w3).alloc _)); try have HOWA : Hid (w3.ownsRow wr.heap.size 22 1 (.slice (some ⟨wr.heap.size, 0, none⟩) 1 1) 1 [(.slice (some ⟨b, o, none⟩) n cap)]) := own_fr HLO.out (by first | exact f3 | exact Fr.trans (Fr.drew (Fr.refl _)) f3); clear f3 hvl hve hb3 hc3)))
                all_goals
                  go_wp2_with fail
                  go_ret
                  refine ⟨?_, Fr.trans HFR.out F5.out⟩
                  rw [HFX.out]
                  exact HFO.out
          · have h1 : (1 : Int) < (n : Int) := by omega
            have hlnI : (n : Int) ≤ (l.length : Int) := by omega
            have hfit := HFIT.out
            clear hn1 hgt
            go_wp2_with fail
            refine hby.mono ?_
            rintro _ w2 ⟨⟨S, rfl, hS, hS2⟩, f2⟩
            have hS3 : (S.size : Int) ≤ 245 := by omega
            have hS4 : (245 < (S.size : Int)) = False := by simp; omega
            have HS := hideP hS
            have F2 := hideP (Fr.trans HFR.out f2)
            clear hby f2 hfit hS
            by_cases hcn : cap = n
            · obtain rfl : n = cap := hcn.symm
              have hdn : l.drop n = [] := List.drop_of_length_le (by omega)
              have hrec : ∀ c' W2, Fr w2 W2 → l.length - n ≤ c' → Calls Try.prog 18 #[.slice (some ⟨b, o, none⟩) (l.length - n) c'] W2 fun e w' => FoAs w0 (LF.fill (l.drop n)) e w' ∧ Fr W2 w' := fun c' W2 f2 hc2 => HIH.out _ (l.drop n) w0 W2 (by rw [List.length_drop]; omega) (HFW.out.trans (F2.out.trans f2)) (by
                refine ⟨_, c', by rw [List.length_drop], ?_⟩
                exact Or.inl (List.drop_of_length_le (by omega))
                ) (fun a' n' c2 e => by simp only [Value.slice.injEq] at e; omega) (by rw [List.length_drop]; omega) (fun e he => HR.out e (List.mem_of_mem_drop he))
              have HLV := hideP (HEN.out n hnl)
              have HLO := hideP (lit_own w2 (.slice (some ⟨b, o, none⟩) n n))
              have hL2 : LF.fill (l.drop n) = [] := by rw [hdn]; rfl
              have HL2 := hideP hL2
              rw [hL2] at hrec
              have hln : (l.length - n : Nat) = 0 := by have := congrArg List.length hdn; rw [List.length_drop, List.length_nil] at this; exact this
              rw [hln] at hrec
              have hlI : (l.length : Int) - (n : Int) = 0 := by omega
              clear hL2 hdn
              have hrecN : ∀ c' W2, Fr w2 W2 → Calls Try.prog 18 #[.slice (some ⟨b, o, none⟩) 0 c'] W2 fun e w' => e = .returned (.slice none 0 0) ∧ Fr W2 w' := fun c' W2 f2 => (hrec c' W2 f2 (Nat.zero_le _)).mono fun e w' h => by
                obtain ⟨⟨a9, k9, vals, rfl, _, _, h9⟩, hf9⟩ := h
                rcases h9 with ⟨_, rfl, rfl⟩ | ⟨h9, _⟩
                · exact ⟨rfl, hf9⟩
                · exact absurd rfl h9
              clear hrec
              go_wp2_with fail
              go_region_law (first | (refine step_append_none rfl _ _ 36 rfl w2.heap.size 22 i1 1 Try.underlying36 hi1 _ 1 [(.slice (some ⟨b, o, none⟩) n n)] rfl HOWA.out rfl ?_) | (refine step_append_none rfl _ _ 36 rfl w3.heap.size 22 i1 1 Try.underlying36 hi1 _ 1 [(.slice (some ⟨b, o, none⟩) n n)] rfl HOWB.out rfl ?_) | (go_simp; go_wp2_with (go_at_call 18; refine (hrecN _ _ (by first | exact Fr.refl _ | exact Fr.drew (Fr.refl _) | exact Fr.alloc (Fr.refl _) _ | exact Fr.drew (Fr.alloc (Fr.refl _) _))).mono ?_; rintro _ w3 ⟨rfl, f3⟩; have F3 : Hid (Fr w2 w3) := (by first | exact f3 | exact Fr.trans (Fr.drew (Fr.refl _)) f3 | exact Fr.trans (Fr.alloc (Fr.refl _) _) f3 | exact Fr.trans (Fr.drew (Fr.alloc (Fr.refl _) _)) f3); have HOWB := hideP (lit_own w3 (.slice (some ⟨b, o, none⟩) n n)); try have HOWA : Hid (w3.ownsRow w2.heap.size 22 1 (.slice (some ⟨w2.heap.size, 0, none⟩) 1 1) 1 [(.slice (some ⟨b, o, none⟩) n n)]) := own_fr HLO.out (by first | exact f3 | exact Fr.trans (Fr.drew (Fr.refl _)) f3); clear f3)))
              all_goals
                go_wp2_with fail
                go_ret
                refine ⟨?_, (by first | exact Fr.trans F2.out F3.out | exact Fr.alloc (Fr.trans F2.out F3.out) _)⟩
                rw [HFX.out, HL2.out]
                exact foAs_mk HLV.out (vals := []) rfl (fun i h => absurd h (Nat.not_lt_zero _)) (by first | exact HOWA.out | exact HOWB.out)
            · by_cases hdn : l.drop n = []
              · have hrec : ∀ c' W2, Fr w2 W2 → l.length - n ≤ c' → Calls Try.prog 18 #[.slice (some ⟨b, o + n * 2, none⟩) (l.length - n) c'] W2 fun e w' => FoAs w0 (LF.fill (l.drop n)) e w' ∧ Fr W2 w' := fun c' W2 f2 hc2 => HIH.out _ (l.drop n) w0 W2 (by rw [List.length_drop]; omega) (HFW.out.trans (F2.out.trans f2)) (by
                  refine ⟨_, c', by rw [List.length_drop], ?_⟩
                  exact Or.inr ⟨b, o + n * 2, rfl, hb, HC.out.drop n⟩
                  ) (fun a' n' c2 e => by simp only [Value.slice.injEq] at e; omega) (by rw [List.length_drop]; omega) (fun e he => HR.out e (List.mem_of_mem_drop he))
                have HLV := hideP (HEN.out n hnl)
                have HLO := hideP (lit_own w2 (.slice (some ⟨b, o, none⟩) n cap))
                have hL2 : LF.fill (l.drop n) = [] := by rw [hdn]; rfl
                have HL2 := hideP hL2
                rw [hL2] at hrec
                have hln : (l.length - n : Nat) = 0 := by have := congrArg List.length hdn; rw [List.length_drop, List.length_nil] at this; exact this
                rw [hln] at hrec
                have hlI : (l.length : Int) - (n : Int) = 0 := by omega
                clear hL2 hdn
                have hrecN : ∀ c' W2, Fr w2 W2 → Calls Try.prog 18 #[.slice (some ⟨b, o + n * 2, none⟩) 0 c'] W2 fun e w' => e = .returned (.slice none 0 0) ∧ Fr W2 w' := fun c' W2 f2 => (hrec c' W2 f2 (Nat.zero_le _)).mono fun e w' h => by
                  obtain ⟨⟨a9, k9, vals, rfl, _, _, h9⟩, hf9⟩ := h
                  rcases h9 with ⟨_, rfl, rfl⟩ | ⟨h9, _⟩
                  · exact ⟨rfl, hf9⟩
                  · exact absurd rfl h9
                clear hrec
                go_wp2_with fail
                go_region_law (first | (refine step_append_none rfl _ _ 36 rfl w2.heap.size 22 i1 1 Try.underlying36 hi1 _ 1 [(.slice (some ⟨b, o, none⟩) n cap)] rfl HOWA.out rfl ?_) | (refine step_append_none rfl _ _ 36 rfl w3.heap.size 22 i1 1 Try.underlying36 hi1 _ 1 [(.slice (some ⟨b, o, none⟩) n cap)] rfl HOWB.out rfl ?_) | (go_simp; go_wp2_with (go_at_call 18; refine (hrecN _ _ (by first | exact Fr.refl _ | exact Fr.drew (Fr.refl _) | exact Fr.alloc (Fr.refl _) _ | exact Fr.drew (Fr.alloc (Fr.refl _) _))).mono ?_; rintro _ w3 ⟨rfl, f3⟩; have F3 : Hid (Fr w2 w3) := (by first | exact f3 | exact Fr.trans (Fr.drew (Fr.refl _)) f3 | exact Fr.trans (Fr.alloc (Fr.refl _) _) f3 | exact Fr.trans (Fr.drew (Fr.alloc (Fr.refl _) _)) f3); have HOWB := hideP (lit_own w3 (.slice (some ⟨b, o, none⟩) n cap)); try have HOWA : Hid (w3.ownsRow w2.heap.size 22 1 (.slice (some ⟨w2.heap.size, 0, none⟩) 1 1) 1 [(.slice (some ⟨b, o, none⟩) n cap)]) := own_fr HLO.out (by first | exact f3 | exact Fr.trans (Fr.drew (Fr.refl _)) f3); clear f3)))
                all_goals
                  go_wp2_with fail
                  go_ret
                  refine ⟨?_, (by first | exact Fr.trans F2.out F3.out | exact Fr.alloc (Fr.trans F2.out F3.out) _)⟩
                  rw [HFX.out, HL2.out]
                  exact foAs_mk HLV.out (vals := []) rfl (fun i h => absurd h (Nat.not_lt_zero _)) (by first | exact HOWA.out | exact HOWB.out)
              · have hrec : ∀ c' W2, Fr w2 W2 → l.length - n ≤ c' → Calls Try.prog 18 #[.slice (some ⟨b, o + n * 2, none⟩) (l.length - n) c'] W2 fun e w' => FoAs w0 (LF.fill (l.drop n)) e w' ∧ Fr W2 w' := fun c' W2 f2 hc2 => HIH.out _ (l.drop n) w0 W2 (by rw [List.length_drop]; omega) (HFW.out.trans (F2.out.trans f2)) (by
                  refine ⟨_, c', by rw [List.length_drop], ?_⟩
                  exact Or.inr ⟨b, o + n * 2, rfl, hb, HC.out.drop n⟩
                  ) (fun a' n' c2 e => by simp only [Value.slice.injEq] at e; omega) (by rw [List.length_drop]; omega) (fun e he => HR.out e (List.mem_of_mem_drop he))
                have HLV := hideP (HEN.out n hnl)
                have HLO := hideP (lit_own w2 (.slice (some ⟨b, o, none⟩) n cap))
                have hL2 : LF.fill (l.drop n) ≠ [] := by rw [LF.fill_nx hdn]; simp
                have HL2n := hideP hL2
                have hLL : (LF.fill (l.drop n)).length ≤ 40 := by have := fill_len (l.drop n); rw [List.length_drop] at this; omega
                generalize hLF : LF.fill (l.drop n) = L2 at *
                have HLF := hideP hLF
                clear hL2 hdn hLF
                have hrecS : ∀ c' W2, Fr w2 W2 → l.length - n ≤ c' → Calls Try.prog 18 #[.slice (some ⟨b, o + n * 2, none⟩) (l.length - n) c'] W2 fun e w' => (∃ (b3 o3 k3 : Nat) (vals : List Value), e = .returned (.slice (some ⟨b3, o3, none⟩) L2.length k3) ∧ vals.length = L2.length ∧ (∀ i (h : i < L2.length) (h2 : i < vals.length), IsEn w0 vals[i] L2[i]) ∧ b3 < w'.heap.size ∧ ∀ j u, vals[j]? = some u → w'.cell? ((⟨b3, o3, none⟩ : Addr).add j) = some u) ∧ Fr W2 w' := fun c' W2 f2 hc2 => (hrec c' W2 f2 hc2).mono fun e w' h => by
                  obtain ⟨⟨a9, k9, vals, rfl, h1, h2, h9⟩, hf9⟩ := h
                  rcases h9 with ⟨h9, _, _⟩ | ⟨_, b3, o3, rfl, h3, h4⟩
                  · exact absurd h9 HL2n.out
                  · exact ⟨⟨b3, o3, k9, vals, rfl, h1, h2, h3, fun j u hu => by rw [add_at _ _ rfl]; exact h4 j u hu⟩, hf9⟩
                clear hrec
                have hcm : l.length - n ≤ cap - n := by omega
                have hw0 := hideP HFW.out
                go_wp2_with fail
                go_region_law (first | (refine step_append_own_at rfl _ _ 36 rfl w2.heap.size 22 i1 (.slice none 0 0) 1 24 Try.underlying36 hi1 hy0 hy1 hy2 rfl (by decide) _ 1 [(.slice (some ⟨b, o, none⟩) n cap)] rfl HOWA.out ⟨b3, o3, none⟩ L2.length k3 vals rfl HVL.out HNA.out HVO.out (by unfold maxLen; omega) (by omega) (Fr.size F3.out) ?_; intro v5 w5 hown5 hgrow5 _; have HFO := hideP (foAs_mk HLV.out HVL2.out HVE.out hown5); have F5 : Hid (Fr w2 w5) := (Below.grown F3.out hgrow5 (Fr.size F3.out) (fun k hk => (HOWA.out.lt k hk).1)); obtain ⟨g5, c5, hv5⟩ := own_shape (n := L2.length) (by rw [Nat.add_comm] at hown5; exact hown5); subst hv5; clear hown5 hgrow5) | (refine step_append_own_at rfl _ _ 36 rfl w3.heap.size 22 i1 (.slice none 0 0) 1 24 Try.underlying36 hi1 hy0 hy1 hy2 rfl (by decide) _ 1 [(.slice (some ⟨b, o, none⟩) n cap)] rfl HOWB.out ⟨b3, o3, none⟩ L2.length k3 vals rfl HVL.out HNB.out HVO.out (by unfold maxLen; omega) (by omega) HSB.out ?_; intro v5 w5 hown5 hgrow5 _; have HFO := hideP (foAs_mk HLV.out HVL2.out HVE.out hown5); have F5 : Hid (Fr w2 w5) := (Below.grown (Fr.alloc F3.out _) hgrow5 (Nat.le_trans (Fr.size F3.out) HSB.out) (fun k hk => Nat.le_trans (Fr.size F3.out) (HOWB.out.lt k hk).1)); obtain ⟨g5, c5, hv5⟩ := own_shape (n := L2.length) (by rw [Nat.add_comm] at hown5; exact hown5); subst hv5; clear hown5 hgrow5) | (go_simp; go_wp2_with (go_at_call 18; refine (hrecS _ _ (by first | exact Fr.refl _ | exact Fr.drew (Fr.refl _) | exact Fr.alloc (Fr.refl _) _ | exact Fr.drew (Fr.alloc (Fr.refl _) _)) (by omega)).mono ?_; rintro _ w3 ⟨⟨b3, o3, k3, vals, rfl, hvl, hve, hb3, hc3⟩, f3⟩; have F3 : Hid (Fr w2 w3) := (by first | exact f3 | exact Fr.trans (Fr.drew (Fr.refl _)) f3 | exact Fr.trans (Fr.alloc (Fr.refl _) _) f3 | exact Fr.trans (Fr.drew (Fr.alloc (Fr.refl _) _)) f3); have HOWB := hideP (lit_own w3 (.slice (some ⟨b, o, none⟩) n cap)); have HVL : Hid (vals.length = L2.length * 1) := (by rw [Nat.mul_one]; exact hvl); have HVL2 := hideP hvl; have HVE := hideP hve; have HVO := hideP (vals_one hvl hve); have HNA := hideP hc3; have HNB : Hid (∀ j u, vals[j]? = some u → (w3.alloc (.cells #[(.slice (some ⟨b, o, none⟩) n cap)] 22)).cell? ((⟨b3, o3, none⟩ : Addr).add j) = some u) := (fun j u hu => by rw [add_at _ _ rfl]; have h := hc3 j u hu; rw [add_at _ _ rfl] at h; exact (Below.cell ((Fr.refl w3).alloc _) hb3).trans h); have HSB : Hid (w3.heap.size ≤ (w3.alloc (.cells #[(.slice (some ⟨b, o, none⟩) n cap)] 22)).heap.size) := (Fr.size ((Fr.refl w3).alloc _)); try have HOWA : Hid (w3.ownsRow w2.heap.size 22 1 (.slice (some ⟨w2.heap.size, 0, none⟩) 1 1) 1 [(.slice (some ⟨b, o, none⟩) n cap)]) := own_fr HLO.out (by first | exact f3 | exact Fr.trans (Fr.drew (Fr.refl _)) f3); clear f3 hvl hve hb3 hc3)))
                all_goals
                  go_wp2_with fail
                  go_ret
                  refine ⟨?_, Fr.trans F2.out F5.out⟩
                  rw [HFX.out]
                  exact HFO.out
end Go.Proofs.Ythpcdhnaibpjnaa
