/-
  What pushedNode and pushedPair of package eval answer.
-/
import Derived.Test.YtjljohmflhmkmaaGreatDoorGpG
import Derived.Test.YtjljohmflhmkmaaGreatDoorEvY
namespace Go.Proofs.YtjljohmflhmkmaaGreatDoor
open Go.ChangeShapes Go.WideShapes Go.ChangeAt Go.RowKit
set_option linter.unusedVariables false
set_option linter.unusedSimpArgs false
set_option maxRecDepth 100000
set_option maxHeartbeats 2000000

namespace EX
theorem F.app_nil : ∀ (t : F), F.app t .nil = t
  | .nil => rfl
  | .nd n k s => by simp only [F.app, F.app_nil s]
end EX
namespace EV
open VM EX
theorem pf_app (b : Bool) (s t : F) : pf b (F.app s t) = F.app (pf b s) (pf b t) := by
  have app_assoc : ∀ (x y z : F), F.app (F.app x y) z = F.app x (F.app y z) := by
    intro x
    induction x with
    | nil => intro y z; rfl
    | nd n k s _ ih => intro y z; simp only [F.app, ih]
  induction s with
  | nil => unfold F.app; rw [pf]
  | nd n k s _ ih =>
    simp only [F.app]
    rw [pf, pf, ih]
    split
    · rw [app_assoc]
    split
    · rfl
    split
    · rfl
    split <;> rfl
/-- what each tree becomes -/
def pps (b : Bool) : F → List (List Nd)
  | .nil => []
  | .nd n k s => (pf b (.nd n k .nil)).flat :: pps b s
theorem pps_flat (b : Bool) : ∀ (t : F), (pps b t).flatten = (pf b t).flat
  | .nil => by rw [pf]; rfl
  | .nd n k s => by
    have e : F.nd n k s = F.app (.nd n k .nil) s := rfl
    rw [pps, List.flatten_cons, pps_flat b s, e, pf_app, F.flat_app]
theorem pps_len (b : Bool) : ∀ (t : F), (pps b t).length = t.len
  | .nil => rfl
  | .nd n k s => by simp [pps, F.len, pps_len b s]
theorem part_pps (b : Bool) : ∀ (t : F) (i : Nat) (h : i < t.parts.length) (h' : i < (pps b t).length), t.good → ∃ n k, t.parts[i] = k.flat ++ [n] ∧ (pps b t)[i] = (pf b (.nd n k .nil)).flat ∧ (F.nd n k .nil).good ∧ mx (dp k) + 1 ≤ mx (dp t) ∧ (k.flat ++ [n]).length ≤ t.flat.length ∧ ∀ x ∈ k.flat ++ [n], x ∈ t.flat
  | .nd n k s, 0, _, _, hg => ⟨n, k, rfl, rfl, ⟨hg.1, hg.2.1, hg.2.2.1, trivial⟩, by simp only [dp, mx_cons]; omega, by simp [F.flat], fun x hx => by simp only [F.flat]; rw [List.mem_append] at hx ⊢; rcases hx with hx | hx; exact .inl hx; right; simp at hx; simp [hx]⟩
  | .nd n k s, i + 1, h, h', hg => by
    obtain ⟨n', k', h1, h2, h3, h4, h5, h6⟩ := part_pps b s i (by simpa [F.parts] using h) (by simpa [pps] using h') hg.2.2.2
    refine ⟨n', k', by simpa [F.parts] using h1, by simpa [pps] using h2, h3, by simp only [dp, mx_cons]; omega, ?_, fun x hx => by simp only [F.flat]; rw [List.mem_append]; right; exact List.mem_cons_of_mem _ (h6 x hx)⟩
    simp only [F.flat, List.length_append, List.length_cons, List.length_nil] at h5 ⊢
    omega
theorem pf_flat_len : ∀ (t : F) (b : Bool), (pf b t).flat.length ≤ 2 * t.flat.length
  | .nil, b => by rw [pf]; exact Nat.le_refl _
  | .nd n k s, b => by
    have h1 := pf_flat_len k (!b)
    have h2 := pf_flat_len k b
    have h3 := pf_flat_len s b
    rw [pf]
    split
    · rw [F.flat_app]; simp only [F.flat, List.length_append, List.length_cons]; omega
    split
    · simp only [F.flat, List.length_append, List.length_cons]; omega
    split
    · simp only [F.flat, List.length_append, List.length_cons]; omega
    split
    · simp only [F.flat, List.length_append, List.length_cons]; omega
    · simp only [F.flat, List.length_append, List.length_cons, List.length_nil]; omega
end EV
theorem own_put {B n sz g j c : Nat} {T : TypeId} {u : Value} {xs : List Value} {w : World} (h : w.ownsRow B T sz (.slice (some ⟨g, 0, none⟩) n c) n xs) : (w.setCell ⟨g, j, none⟩ u).ownsRow B T sz (.slice (some ⟨g, 0, none⟩) n c) n (xs.set j u) := by
  refine ⟨by rw [List.length_set]; exact h.1, ?_⟩
  rcases h.2 with ⟨e, _⟩ | ⟨g', cap, cur, e, h2, h3, h4, h5, h6, h7⟩
  · cases e
  · cases e
    right
    refine ⟨g, c, cur.setIfInBounds j u, rfl, h2, Blk.set (T := T) h3 j u, h4, h5, by rw [Array.size_setIfInBounds]; exact h6, ?_⟩
    rw [Array.toList_setIfInBounds, List.take_set, h7]
theorem flat_set_last (l : List EX.Nd) (n : EX.Nd) (op : Int) : (flat cdN (l ++ [n])).set (l.length * 6) (.int .i64 op) = flat cdN (l ++ [⟨op, n.kids, n.v, n.nm⟩]) := by
  rw [flat_app, flat_app, List.set_append_right _ _ (by rw [flat_len]; exact Nat.le_refl _), flat_len]
  rw [show l.length * 6 - l.length * cdN.k = 0 by show l.length * 6 - l.length * 6 = 0; omega]
  rfl
/-- what pushedNode answers of a tree -/
def PnAns (b : Bool) (n : EX.Nd) (k : EX.F) (B : Nat) (r : Ending) (w' : World) : Prop := ∃ u, r = .returned u ∧ w'.ownsRow B 38 6 u (EV.pf b (.nd n k .nil)).flat.length (flat cdN (EV.pf b (.nd n k .nil)).flat)
/-- pushedNode keeps its word of trees that have fewer nodes -/
def PnTo (N : Nat) : Prop := ∀ (n : EX.Nd) (k : EX.F) (b : Bool) (v : Value) (W : World), (k.flat ++ [n]).length < N → (EX.F.nd n k .nil).good → EX.mx (EX.dp k) + 1 ≤ 12 → (k.flat ++ [n]).length ≤ 60 → (∀ x ∈ k.flat ++ [n], x.nm.size ≤ 140737488355327) → Tn W → IsL cdN W v (k.flat ++ [n]) →
  Calls Tryz.prog 51 #[v, .bool b] W fun r w' => PnAns b n k W.heap.size r w' ∧ Fr W w'
theorem pair_core (n : EX.Nd) (k : EX.F) (b : Bool) (v : Value) (w : World) (HP : PnTo (k.flat ++ [n]).length) (hg : (EX.F.nd n k .nil).good) (hd : EX.mx (EX.dp k) + 1 ≤ 12) (hl : (k.flat ++ [n]).length ≤ 60) (hn : ∀ x ∈ k.flat ++ [n], x.nm.size ≤ 140737488355327) (hTn : Tn w) (h : IsL cdN w v (k.flat ++ [n])) (hop : n.op = 16 ∨ n.op = 17) :
    Calls Tryz.prog 69 #[v, .bool b] w fun r w' => PnAns b n k w.heap.size r w' ∧ Fr w w' := by
  obtain ⟨i0, hi0, hz0, hz1, hz2⟩ := info_parts Tryz.infoN
  have hck := EX.ck_of hg hd hl
  have HK := hideP (fun W (g : Fr w W) => kids_any v (k.flat ++ [n]) W (h.fr g) hn (by omega))
  rw [hck, EX.kds_tree hg.2.2.1.right] at HK
  simp only [ne_eq, not_true, false_and, or_false, true_and] at HK
  have HTn := hideP hTn
  have HPart := hideP (fun i h1 h2 => EV.part_pps b k i h1 h2 hg.2.2.1)
  have hkl : k.flat.length + 1 ≤ 60 := by rw [List.length_append] at hl; exact hl
  have hfl := EV.pf_flat_len k b
  have hpl := EX.F.parts_len k
  have hql := EV.pps_len b k
  have hln : k.len ≤ 60 := by
    have h2 := hg.2.1
    have h4 : n.kids ≤ 7 := by
      have h := hg.1
      unfold EX.nchk at h
      split at h
      · cases h
      split at h
      · cases h
      have : EX.km n.op ≤ 7 := by unfold EX.km; (repeat' split) <;> decide
      omega
    omega
  have HFl := hideP (EV.pps_flat b k)
  have HTk := hideP (fun i => show ((EV.pps b k).take i).flatten.length ≤ 120 by
    have h1 : ((EV.pps b k).take i).flatten.length ≤ (EV.pps b k).flatten.length := by
      conv => rhs; rw [← List.take_append_drop i (EV.pps b k), List.flatten_append, List.length_append]
      exact Nat.le_add_right _ _
    rw [EV.pps_flat] at h1
    omega)
  have HPf : Hid (EV.pf b (.nd n k .nil) = .nd ⟨EV.flp b n.op, n.kids, n.v, n.nm⟩ (EV.pf b k) .nil) := by
    unfold Hid
    rw [EV.pf, if_neg (by omega), if_pos hop]
    rw [EV.pf]
  have HPn : Hid (PnTo (k.flat.length + 1)) := by
    unfold Hid
    rw [List.length_append] at HP
    exact HP
  obtain ⟨a, cap, rfl, hcap, hcs⟩ := h
  obtain ⟨bb, o, rfl, hb, hat⟩ : ∃ b o, a = some ⟨b, o, none⟩ ∧ b < w.heap.size ∧ At cdN w b o (k.flat ++ [n]) := by
    rcases hcs with h | h
    · simp at h
    · exact h
  obtain ⟨c0, c1, c2, c3, c4, c5⟩ := hat.nd k.flat.length (by simp)
  simp only [List.getElem_concat_length] at c0 c1 c2 c3 c4 c5
  rw [List.length_append] at hcap HK ⊢
  simp only [List.length_cons, List.length_nil, Nat.zero_add] at hcap HK ⊢
  have HNm := hideP hn
  unfold PnAns
  rw [HPf.out]
  simp only [EX.F.flat]
  rw [← HFl.out]
  clear hcs hat hn hTn hck hl HP
  obtain ⟨kf, hkf⟩ : ∃ kf, k.flat.length = kf := ⟨_, rfl⟩
  have HKf := hideP hkf
  rw [hkf] at c0 c1 c2 c3 c4 c5 hcap HK hkl HPn hfl ⊢
  have hx1 : (1 : Int) ≤ (kf : Int) + 1 := by omega
  have HPar : Hid (∀ i (h1 : i < k.parts.length) (h2 : i < (EV.pps b k).length), k.parts[i].length < kf + 1) := by
    intro i h1 h2
    obtain ⟨n', k', p1, p2, p3, p4, p5, p6⟩ := HPart.out i h1 h2
    rw [p1]
    omega
  have HCall := hideP (fun i (h1 : i < k.parts.length) (h2 : i < (EV.pps b k).length) u W (g : Fr w W) (hu : IsL cdN W u k.parts[i]) => show Calls Tryz.prog 51 #[u, .bool b] W (fun r w' => (∃ u', r = .returned u' ∧ w'.ownsRow W.heap.size 38 6 u' (EV.pps b k)[i].length (flat cdN (EV.pps b k)[i])) ∧ Fr W w') from by
    obtain ⟨n', k', p1, p2, p3, p4, p5, p6⟩ := HPart.out i h1 h2
    rw [p2]
    refine HPn.out n' k' b u W (by omega) p3 (by omega) (by omega) (fun x hx => HNm.out x (List.mem_append_left _ (p6 x hx))) (HTn.out.fr g) (by rw [← p1]; exact hu))
  have HLs : Hid (k.parts.length = (EV.pps b k).length) := by unfold Hid; rw [hpl, hql]
  have hl60 : k.parts.length ≤ 60 := by omega
  clear HPart HPn HPf HFl HNm HTn
  generalize k.parts = ls at *
  generalize EV.pps b k = ps at *
  generalize EV.pf b k = pk at *
  obtain ⟨op, kids, ⟨vk, vn, vs⟩, nm⟩ := n
  simp only at c0 c1 c2 c3 c4 c5 hop ⊢
  have HB0 := hideP (Blk.new w #[.int .i64 op, .int .i64 kids, .int .i64 vk, .int .i64 vn, .string vs, .string nm] 38)
  have F0 := hideP ((Fr.refl w).alloc (.cells #[.int .i64 op, .int .i64 kids, .int .i64 vk, .int .i64 vn, .string vs, .string nm] 38))
  clear hkf hg hd hln hpl hql hfl
  go_enter Tryz.func69, Tryz.ntmps69
  go_wp2_with fail
  generalize w.alloc (.cells #[.int .i64 op, .int .i64 kids, .int .i64 vk, .int .i64 vn, .string vs, .string nm] 38) = w0 at *
  refine (HK.out w0 F0.out).mono ?_
  rintro _ w2 ⟨⟨u, rfl, hll⟩, f2⟩
  obtain ⟨qs, hq, hqn, hqs⟩ := hll.isLL
  obtain ⟨ua, uc, rfl, huc, hucs⟩ := hq
  have HQn := hideP hqn
  have HQ := hideP hqs
  have HUc := hideP hucs
  have HB2 := hideP (HB0.out.fr f2)
  have F2 := hideP (F0.out.trans f2)
  have hlt0 : w.heap.size < w2.heap.size := Nat.lt_of_lt_of_le HB0.out.lt f2.size
  rw [hqn] at huc ⊢
  clear hll hqn hqs hucs f2 HK HB0 F0 c0 c1 c2 c3 c4 c5
  go_wp2_with fail
  go_loopw [8, 10, 24] (fun pv _ iv wr => ∃ i : Nat, iv = .int .i64 i ∧ i ≤ ls.length ∧ wr.ownsRow w2.heap.size 38 6 pv (ps.take i).flatten.length (flat cdN (ps.take i).flatten) ∧ Fr w2 wr) (fun _ _ iv _ => ls.length - (intOf iv).toNat)
  case atStart => exact ⟨0, rfl, Nat.zero_le _, World.ownsRow_nil _ _ _ _, Fr.refl _⟩
  case round =>
    obtain ⟨i, rfl, hi, hown, hfr⟩ := hrel
    obtain ⟨fa, fc, rfl⟩ := own_slice hown
    have HO := hideP hown
    have HF := hideP hfr
    have hsz := hfr.size
    clear hown hfr
    by_cases hlt : i < ls.length
    · have hlt' : (i : Int) < (ls.length : Int) := by omega
      have hltq : i < qs.length := by rw [HQn.out]; exact hlt
      have hltp : i < ps.length := by rw [← HLs.out]; exact hlt
      obtain ⟨b9, o9, rfl, hb9, hc9⟩ : ∃ b o, ua = some ⟨b, o, none⟩ ∧ b < w2.heap.size ∧ At cdQ w2 b o qs := by
        rcases HUc.out with h | h
        · rw [h] at hltq; simp at hltq
        · exact h
      have d0 := (hc9.fr hb9 HF.out).q1 i hltq
      have HCa := hideP (HCall.out i hlt hltp _ wr (F2.out.trans HF.out) ((HQ.out i hltq hlt).fr HF.out))
      have hst := EX.flat_step ps i hltp
      have hbd := HTk.out (i + 1)
      rw [hst, List.length_append] at hbd
      generalize ps[i] = l at *
      generalize qs[i] = x at *
      obtain ⟨xa, xn, xc⟩ := x
      simp only [Sl.v] at d0 HCa
      generalize (ps.take i).flatten = fs at *
      generalize hfs : (ps.take (i + 1)).flatten = fs' at *
      have HS := hideP hst
      have HFs := hideP hfs
      obtain ⟨m, hm⟩ : ∃ m, fs.length = m := ⟨_, rfl⟩
      have HMm := hideP hm
      rw [hm] at HO hbd ⊢
      obtain ⟨q, hq⟩ : ∃ q, l.length = q := ⟨_, rfl⟩
      have HQq := hideP hq
      rw [hq] at HCa hbd
      clear hc9 hst hfs hm hq
      go_wp2_with fail
      refine HCa.out.mono ?_
      rintro _ w4 ⟨⟨u4, rfl, own4⟩, f4⟩
      obtain ⟨ra, rc, rfl⟩ := own_slice own4
      have HIs := hideP (show IsL cdN w4 (.slice ra q rc) l from isL_own (E := cdN) (by rw [HQq.out]; exact own4))
      have HO4 := hideP (own_fr HO.out f4)
      have F4 := hideP (HF.out.trans f4)
      have hsz4 := F4.out.size
      clear own4 f4 d0
      go_wp2_with (at_builtin; refine wpList_append_L cdN rfl _ _ 22 38 i0 _ 64 rfl Tryz.underlying22 hi0 hz0 hz1 hz2 rfl w2.heap.size _ m fs rfl HO4.out (.slice ra q rc) l rfl HIs.out ?c3 ?c4 ?c5 ?_)
      case c3 => rw [HQq.out]; unfold maxLen; omega
      case c4 => rw [HQq.out]; omega
      case c5 => exact hsz4
      intro v5 wB own5 gr5
      have HN5 := hideP (show wB.ownsRow w2.heap.size 38 6 v5 fs'.length (flat cdN fs') from by
        rw [HS.out, List.length_append, HMm.out]
        exact own5)
      have FB := hideP (show Fr w2 wB from Below.grown F4.out gr5 hsz4 (own_base HO4.out))
      clear own5 gr5
      go_wp2_with fail
      go_roundw
      case rel => exact ⟨i + 1, by go_num, by omega, by rw [HFs.out]; exact HN5.out, FB.out⟩
      case measure => simp [intOf]; omega
    · obtain rfl : i = ls.length := by omega
      have hlt' : ((ls.length : Int) < (ls.length : Int)) = False := by simp
      have hbd := HTk.out ls.length
      have e9 : ps.take ls.length = ps := by rw [HLs.out, List.take_length]
      rw [e9] at HO hbd ⊢
      have HB3 := hideP (HB2.out.fr HF.out)
      have x0 := HB3.out.cell 0 rfl
      have x1 := HB3.out.cell 1 rfl
      have x2 := HB3.out.cell 2 rfl
      have x3 := HB3.out.cell 3 rfl
      have x4 := HB3.out.cell 4 rfl
      have x5 := HB3.out.cell 5 rfl
      have x6 := HB3.out.frozen 0
      obtain ⟨fs, hgf⟩ : ∃ fs, ps.flatten = fs := ⟨_, rfl⟩
      have HG := hideP hgf
      rw [hgf] at HO hbd ⊢
      obtain ⟨m, hm⟩ : ∃ m, fs.length = m := ⟨_, rfl⟩
      have HMm := hideP hm
      rw [hm] at HO hbd ⊢
      clear hm e9 hgf
      cases b with
      | false =>
        have HLit := hideP (lit_one cdN wr ⟨op, kids, ⟨vk, vn, vs⟩, nm⟩ 38)
        have HO4 := hideP (own_fr HO.out ((Fr.refl wr).alloc (.cells #[.int .i64 op, .int .i64 kids, .int .i64 vk, .int .i64 vn, .string vs, .string nm] 38)))
        have F4 := hideP (HF.out.alloc (.cells #[.int .i64 op, .int .i64 kids, .int .i64 vk, .int .i64 vn, .string vs, .string nm] 38))
        go_wp2_with (at_builtin; refine wpList_append_L cdN rfl _ _ 22 38 i0 _ 64 rfl Tryz.underlying22 hi0 hz0 hz1 hz2 rfl w2.heap.size _ m fs rfl HO4.out (.slice (some ⟨wr.heap.size, 0, none⟩) 1 1) [⟨op, kids, ⟨vk, vn, vs⟩, nm⟩] rfl HLit.out ?c3 ?c4 ?c5 ?_)
        case c3 => unfold maxLen; simp <;> omega
        case c4 => simp <;> omega
        case c5 => simp <;> omega
        intro v5 wB own5 gr5
        have FB := hideP (show Fr w2 wB from Below.grown F4.out gr5 (by simp; omega) (own_base HO4.out))
        have HN5 := hideP own5
        clear own5 gr5
        go_wp2_with fail
        go_ret
        refine ⟨⟨_, rfl, ?_⟩, F2.out.trans FB.out⟩
        rw [HG.out, List.length_append, HMm.out]
        exact own_low HN5.out F2.out.size
      | true =>
        rcases hop with rfl | rfl
        · have HLit : Hid (IsL cdN ((wr.setCell ⟨w.heap.size, 0, none⟩ (.int .i64 17)).alloc (.cells #[.int .i64 17, .int .i64 kids, .int .i64 vk, .int .i64 vn, .string vs, .string nm] 38)) (.slice (some ⟨wr.heap.size, 0, none⟩) 1 1) [⟨17, kids, ⟨vk, vn, vs⟩, nm⟩]) := by
            have h := lit_one cdN (wr.setCell ⟨w.heap.size, 0, none⟩ (.int .i64 17)) ⟨17, kids, ⟨vk, vn, vs⟩, nm⟩ 38
            have e : (wr.setCell ⟨w.heap.size, 0, none⟩ (.int .i64 17)).heap.size = wr.heap.size := by simp
            rw [e] at h
            exact h
          have HO3 := hideP (ownsRow_setCell_below HO.out (a := ⟨w.heap.size, 0, none⟩) hlt0 (.int .i64 17))
          have HO4 := hideP (own_fr HO3.out ((Fr.refl _).alloc (.cells #[.int .i64 17, .int .i64 kids, .int .i64 vk, .int .i64 vn, .string vs, .string nm] 38)))
          have F4 := hideP (((F2.out.trans HF.out).setC w.heap.size 0 (.int .i64 17) (Nat.le_refl _)).alloc (.cells #[.int .i64 17, .int .i64 kids, .int .i64 vk, .int .i64 vn, .string vs, .string nm] 38))
          go_wp2_with (at_builtin; refine wpList_append_L cdN rfl _ _ 22 38 i0 _ 64 rfl Tryz.underlying22 hi0 hz0 hz1 hz2 rfl w2.heap.size _ m fs rfl HO4.out (.slice (some ⟨wr.heap.size, 0, none⟩) 1 1) [⟨17, kids, ⟨vk, vn, vs⟩, nm⟩] rfl HLit.out ?c3 ?c4 ?c5 ?_)
          case c3 => unfold maxLen; simp <;> omega
          case c4 => simp <;> omega
          case c5 => simp <;> omega
          intro v5 wB own5 gr5
          have FB := hideP (show Fr w wB from Below.grown F4.out gr5 (by simp; omega) (own_base (own_low HO4.out F2.out.size)))
          have HN5 := hideP own5
          clear own5 gr5
          go_wp2_with fail
          go_ret
          refine ⟨⟨_, rfl, ?_⟩, FB.out⟩
          rw [HG.out, List.length_append, HMm.out]
          exact own_low HN5.out F2.out.size
        · have HLit : Hid (IsL cdN ((wr.setCell ⟨w.heap.size, 0, none⟩ (.int .i64 16)).alloc (.cells #[.int .i64 16, .int .i64 kids, .int .i64 vk, .int .i64 vn, .string vs, .string nm] 38)) (.slice (some ⟨wr.heap.size, 0, none⟩) 1 1) [⟨16, kids, ⟨vk, vn, vs⟩, nm⟩]) := by
            have h := lit_one cdN (wr.setCell ⟨w.heap.size, 0, none⟩ (.int .i64 16)) ⟨16, kids, ⟨vk, vn, vs⟩, nm⟩ 38
            have e : (wr.setCell ⟨w.heap.size, 0, none⟩ (.int .i64 16)).heap.size = wr.heap.size := by simp
            rw [e] at h
            exact h
          have HO3 := hideP (ownsRow_setCell_below HO.out (a := ⟨w.heap.size, 0, none⟩) hlt0 (.int .i64 16))
          have HO4 := hideP (own_fr HO3.out ((Fr.refl _).alloc (.cells #[.int .i64 16, .int .i64 kids, .int .i64 vk, .int .i64 vn, .string vs, .string nm] 38)))
          have F4 := hideP (((F2.out.trans HF.out).setC w.heap.size 0 (.int .i64 16) (Nat.le_refl _)).alloc (.cells #[.int .i64 16, .int .i64 kids, .int .i64 vk, .int .i64 vn, .string vs, .string nm] 38))
          go_wp2_with (at_builtin; refine wpList_append_L cdN rfl _ _ 22 38 i0 _ 64 rfl Tryz.underlying22 hi0 hz0 hz1 hz2 rfl w2.heap.size _ m fs rfl HO4.out (.slice (some ⟨wr.heap.size, 0, none⟩) 1 1) [⟨16, kids, ⟨vk, vn, vs⟩, nm⟩] rfl HLit.out ?c3 ?c4 ?c5 ?_)
          case c3 => unfold maxLen; simp <;> omega
          case c4 => simp <;> omega
          case c5 => simp <;> omega
          intro v5 wB own5 gr5
          have FB := hideP (show Fr w wB from Below.grown F4.out gr5 (by simp; omega) (own_base (own_low HO4.out F2.out.size)))
          have HN5 := hideP own5
          clear own5 gr5
          go_wp2_with fail
          go_ret
          refine ⟨⟨_, rfl, ?_⟩, FB.out⟩
          rw [HG.out, List.length_append, HMm.out]
          exact own_low HN5.out F2.out.size
end Go.Proofs.YtjljohmflhmkmaaGreatDoor
