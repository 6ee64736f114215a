/-
  Proved: for all lists of rows JoinThree answers true: of three, whichever two are joined first, the same rows in the same order. No condition but the form's own reach.
-/
import Derived.Test.YtoepifbpchpfkaaGreatDoorGqG
import Derived.Test.YtoepifbpchpfkaaGreatDoorGqF
import Derived.Test.YtoepifbpchpfkaaGreatDoorBjB
namespace Go.Proofs.YtoepifbpchpfkaaGreatDoor.joinThreeProof
open Go.ChangeShapes Go.WideShapes Go.ChangeAt Go.RowKit
open Go.ChangeMaps (open_string shut_string)
set_option linter.unusedVariables false
set_option linter.unusedSimpArgs false
set_option maxRecDepth 100000
set_option maxHeartbeats 2000000
theorem jn_fit {a b m : List (List VM.Vl)} (h : BG.jn a b = .ok m) : m.length ≤ 40 ∧ ∀ r ∈ m, r.length ≤ 16 := by
 obtain ⟨h1, h2, h3, e⟩ := BG.jn_iff.1 h
 subst e
 refine ⟨by rw [BG.join_len]; exact h3.2, fun r hr => ?_⟩
 obtain ⟨p, hp, q, hq, rfl⟩ := BG.join_mem hr
 have k1 := ((BG.chk_all h1).2 p hp).1
 have k2 := ((BG.chk_all h2).2 q hq).1
 rw [List.length_append]
 omega
theorem walk (v0 : Value) (l0 : List (List VM.Vl)) (v1 : Value) (l1 : List (List VM.Vl)) (v2 : Value) (l2 : List (List VM.Vl)) (w : World) (hTt : Tt w) (rw0 : IsRR w v0 l0) (ok0 : ∀ y ∈ l0, y.length * 32 ≤ 140737488351232 ∧ ∀ z ∈ y, EV.gd z ∧ z.s.size ≤ 140737488351232) (b0 : l0.length * 24 ≤ 140737488351232) (rw1 : IsRR w v1 l1) (ok1 : ∀ y ∈ l1, y.length * 32 ≤ 140737488351232 ∧ ∀ z ∈ y, EV.gd z ∧ z.s.size ≤ 140737488351232) (b1 : l1.length * 24 ≤ 140737488351232) (rw2 : IsRR w v2 l2) (ok2 : ∀ y ∈ l2, y.length * 32 ≤ 140737488351232 ∧ ∀ z ∈ y, EV.gd z ∧ z.s.size ≤ 140737488351232) (b2 : l2.length * 24 ≤ 140737488351232) :
  Calls Tryz.prog 18 #[v0, v1, v2] w fun e w' => e = .returned (.bool true) ∧ Fr w w' := by
 have HBg := hideP (fun (W : World) (f : Fr w W) => bagBegun_any W (hTt.tn.fr f) (hTt.tb.fr f))
 have HR0 := hideP rw0
 have HR1 := hideP rw1
 have HR2 := hideP rw2
 have HF := hideP (fun (W : World) (va vb : Value) (al bl : List (List VM.Vl)) (ha : IsRR W va al) (hb : IsRR W vb bl) (h1 : al.length ≤ 5864062014805 ∧ ∀ r ∈ al, r.length ≤ 4398046511000) (h2 : bl.length ≤ 5864062014805 ∧ ∀ r ∈ bl, r.length ≤ 4398046511000) => join_any va vb al bl W ha hb (by omega) (fun r hr => by have := h1.2 r hr; omega) (by omega) (fun r hr => by have := h2.2 r hr; omega))
 have HS0 := hideP (show l0.length ≤ 5864062014805 ∧ ∀ r ∈ l0, r.length ≤ 4398046511000 from ⟨by omega, fun r hr => by have := (ok0 r hr).1; omega⟩)
 have HS1 := hideP (show l1.length ≤ 5864062014805 ∧ ∀ r ∈ l1, r.length ≤ 4398046511000 from ⟨by omega, fun r hr => by have := (ok1 r hr).1; omega⟩)
 have HS2 := hideP (show l2.length ≤ 5864062014805 ∧ ∀ r ∈ l2, r.length ≤ 4398046511000 from ⟨by omega, fun r hr => by have := (ok2 r hr).1; omega⟩)
 obtain ⟨A0, c0, rfl⟩ := rw0.slice
 obtain ⟨A1, c1, rfl⟩ := rw1.slice
 obtain ⟨A2, c2, rfl⟩ := rw2.slice
 clear rw0 ok0 b0 rw1 ok1 b1 rw2 ok2 b2
 cases hx : BG.jn l0 l1 with
 | error c =>
  cases hy : BG.jn l1 l2 with
  | error d =>
   have p0 := BG.jn_ne hx
   have p1 : ((c : Int) != 0) = true := by simp; omega
   have p2 : ((c : Int) == 0) = false := by simp; omega
   have q0 := BG.jn_ne hy
   have q1 : ((d : Int) != 0) = true := by simp; omega
   have q2 : ((d : Int) == 0) = false := by simp; omega
   have HX := hideP hx
   have HY := hideP hy
   clear hx hy
   go_enter Tryz.func18, Tryz.ntmps18
   go_wp2_with fail
   have k1 := HF.out w _ _ l0 l1 HR0.out HR1.out HS0.out HS1.out
   rw [HX.out] at k1
   refine k1.mono ?_
   clear k1
   rintro _ w1 ⟨rfl, f1⟩
   have F1 := hideP (f1)
   clear f1
   go_wp2_with fail
   have k2 := HF.out w1 _ _ l1 l2 (HR1.out.fr F1.out) (HR2.out.fr F1.out) HS1.out HS2.out
   rw [HY.out] at k2
   refine k2.mono ?_
   clear k2
   rintro _ w2 ⟨rfl, f2⟩
   have F2 := hideP (F1.out.trans f2)
   clear f2
   go_wp2_with fail
   refine (HBg.out _ F2.out).mono ?_
   rintro _ w3 ⟨rfl, f3⟩
   have F3 := hideP (F2.out.trans f3)
   clear f3
   go_wp2_with fail
   go_ret
   exact ⟨rfl, F3.out⟩
  | ok y =>
   have p0 := BG.jn_ne hx
   have p1 : ((c : Int) != 0) = true := by simp; omega
   have p2 : ((c : Int) == 0) = false := by simp; omega
   have HX := hideP hx
   have HY := hideP hy
   clear hx hy
   go_enter Tryz.func18, Tryz.ntmps18
   go_wp2_with fail
   have k1 := HF.out w _ _ l0 l1 HR0.out HR1.out HS0.out HS1.out
   rw [HX.out] at k1
   refine k1.mono ?_
   clear k1
   rintro _ w1 ⟨rfl, f1⟩
   have F1 := hideP (f1)
   clear f1
   go_wp2_with fail
   have k2 := HF.out w1 _ _ l1 l2 (HR1.out.fr F1.out) (HR2.out.fr F1.out) HS1.out HS2.out
   rw [HY.out] at k2
   refine k2.mono ?_
   clear k2
   rintro _ w2 ⟨⟨u, rfl, hO⟩, f2⟩
   obtain ⟨ya, yc, rfl⟩ := hO.slice
   have Hy := hideP hO.rows
   have F2 := hideP (F1.out.trans f2)
   clear f2 hO
   go_wp2_with fail
   refine (HBg.out _ F2.out).mono ?_
   rintro _ w3 ⟨rfl, f3⟩
   have F3 := hideP (F2.out.trans f3)
   clear f3
   go_wp2_with fail
   go_ret
   exact ⟨rfl, F3.out⟩
 | ok x =>
  cases hy : BG.jn l1 l2 with
  | error d =>
   have q0 := BG.jn_ne hy
   have q1 : ((d : Int) != 0) = true := by simp; omega
   have q2 : ((d : Int) == 0) = false := by simp; omega
   have HX := hideP hx
   have HY := hideP hy
   clear hx hy
   go_enter Tryz.func18, Tryz.ntmps18
   go_wp2_with fail
   have k1 := HF.out w _ _ l0 l1 HR0.out HR1.out HS0.out HS1.out
   rw [HX.out] at k1
   refine k1.mono ?_
   clear k1
   rintro _ w1 ⟨⟨u, rfl, hO⟩, f1⟩
   obtain ⟨xa, xc, rfl⟩ := hO.slice
   have Hx := hideP hO.rows
   have F1 := hideP (f1)
   clear f1 hO
   go_wp2_with fail
   have k2 := HF.out w1 _ _ l1 l2 (HR1.out.fr F1.out) (HR2.out.fr F1.out) HS1.out HS2.out
   rw [HY.out] at k2
   refine k2.mono ?_
   clear k2
   rintro _ w2 ⟨rfl, f2⟩
   replace Hx := hideP (Hx.out.fr f2)
   have F2 := hideP (F1.out.trans f2)
   clear f2
   go_wp2_with fail
   refine (HBg.out _ F2.out).mono ?_
   rintro _ w3 ⟨rfl, f3⟩
   replace Hx := hideP (Hx.out.fr f3)
   have F3 := hideP (F2.out.trans f3)
   clear f3
   go_wp2_with fail
   go_ret
   exact ⟨rfl, F3.out⟩
  | ok y =>
   have hSx : x.length ≤ 5864062014805 ∧ ∀ r ∈ x, r.length ≤ 4398046511000 := ⟨by have := (jn_fit hx).1; omega, fun r hr => by have := (jn_fit hx).2 r hr; omega⟩
   have hSy : y.length ≤ 5864062014805 ∧ ∀ r ∈ y, r.length ≤ 4398046511000 := ⟨by have := (jn_fit hy).1; omega, fun r hr => by have := (jn_fit hy).2 r hr; omega⟩
   have HSx := hideP hSx
   have HSy := hideP hSy
   clear hSx hSy
   cases hm : BG.jn x l2 with
   | error e =>
    cases hn : BG.jn l0 y with
    | error g =>
     have r0 := BG.jn_ne hm
     have r1 : ((e : Int) != 0) = true := by simp; omega
     have r2 : ((e : Int) == 0) = false := by simp; omega
     have s0 := BG.jn_ne hn
     have s1 : ((g : Int) != 0) = true := by simp; omega
     have s2 : ((g : Int) == 0) = false := by simp; omega
     have HM := hideP hm
     have HN := hideP hn
     clear hm hn
     have HX := hideP hx
     have HY := hideP hy
     clear hx hy
     go_enter Tryz.func18, Tryz.ntmps18
     go_wp2_with fail
     have k1 := HF.out w _ _ l0 l1 HR0.out HR1.out HS0.out HS1.out
     rw [HX.out] at k1
     refine k1.mono ?_
     clear k1
     rintro _ w1 ⟨⟨u, rfl, hO⟩, f1⟩
     obtain ⟨xa, xc, rfl⟩ := hO.slice
     have Hx := hideP hO.rows
     have F1 := hideP (f1)
     clear f1 hO
     go_wp2_with fail
     have k2 := HF.out w1 _ _ l1 l2 (HR1.out.fr F1.out) (HR2.out.fr F1.out) HS1.out HS2.out
     rw [HY.out] at k2
     refine k2.mono ?_
     clear k2
     rintro _ w2 ⟨⟨u, rfl, hO⟩, f2⟩
     obtain ⟨ya, yc, rfl⟩ := hO.slice
     have Hy := hideP hO.rows
     replace Hx := hideP (Hx.out.fr f2)
     have F2 := hideP (F1.out.trans f2)
     clear f2 hO
     go_wp2_with fail
     refine (HBg.out _ F2.out).mono ?_
     rintro _ w3 ⟨rfl, f3⟩
     replace Hx := hideP (Hx.out.fr f3)
     replace Hy := hideP (Hy.out.fr f3)
     have F3 := hideP (F2.out.trans f3)
     clear f3
     go_wp2_with fail
     have k4 := HF.out w3 _ _ x l2 Hx.out (HR2.out.fr F3.out) HSx.out HS2.out
     rw [HM.out] at k4
     refine k4.mono ?_
     clear k4
     rintro _ w4 ⟨rfl, f4⟩
     replace Hy := hideP (Hy.out.fr f4)
     have F4 := hideP (F3.out.trans f4)
     clear f4
     go_wp2_with fail
     have k5 := HF.out w4 _ _ l0 y (HR0.out.fr F4.out) Hy.out HS0.out HSy.out
     rw [HN.out] at k5
     refine k5.mono ?_
     clear k5
     rintro _ w5 ⟨rfl, f5⟩
     have F5 := hideP (F4.out.trans f5)
     clear f5
     go_wp2_with fail
     go_ret
     exact ⟨rfl, F5.out⟩
    | ok n =>
     have r0 := BG.jn_ne hm
     have r1 : ((e : Int) != 0) = true := by simp; omega
     have r2 : ((e : Int) == 0) = false := by simp; omega
     have HM := hideP hm
     have HN := hideP hn
     clear hm hn
     have HX := hideP hx
     have HY := hideP hy
     clear hx hy
     go_enter Tryz.func18, Tryz.ntmps18
     go_wp2_with fail
     have k1 := HF.out w _ _ l0 l1 HR0.out HR1.out HS0.out HS1.out
     rw [HX.out] at k1
     refine k1.mono ?_
     clear k1
     rintro _ w1 ⟨⟨u, rfl, hO⟩, f1⟩
     obtain ⟨xa, xc, rfl⟩ := hO.slice
     have Hx := hideP hO.rows
     have F1 := hideP (f1)
     clear f1 hO
     go_wp2_with fail
     have k2 := HF.out w1 _ _ l1 l2 (HR1.out.fr F1.out) (HR2.out.fr F1.out) HS1.out HS2.out
     rw [HY.out] at k2
     refine k2.mono ?_
     clear k2
     rintro _ w2 ⟨⟨u, rfl, hO⟩, f2⟩
     obtain ⟨ya, yc, rfl⟩ := hO.slice
     have Hy := hideP hO.rows
     replace Hx := hideP (Hx.out.fr f2)
     have F2 := hideP (F1.out.trans f2)
     clear f2 hO
     go_wp2_with fail
     refine (HBg.out _ F2.out).mono ?_
     rintro _ w3 ⟨rfl, f3⟩
     replace Hx := hideP (Hx.out.fr f3)
     replace Hy := hideP (Hy.out.fr f3)
     have F3 := hideP (F2.out.trans f3)
     clear f3
     go_wp2_with fail
     have k4 := HF.out w3 _ _ x l2 Hx.out (HR2.out.fr F3.out) HSx.out HS2.out
     rw [HM.out] at k4
     refine k4.mono ?_
     clear k4
     rintro _ w4 ⟨rfl, f4⟩
     replace Hy := hideP (Hy.out.fr f4)
     have F4 := hideP (F3.out.trans f4)
     clear f4
     go_wp2_with fail
     have k5 := HF.out w4 _ _ l0 y (HR0.out.fr F4.out) Hy.out HS0.out HSy.out
     rw [HN.out] at k5
     refine k5.mono ?_
     clear k5
     rintro _ w5 ⟨⟨u, rfl, hO⟩, f5⟩
     obtain ⟨na, nc, rfl⟩ := hO.slice
     have Hn := hideP hO.rows
     have F5 := hideP (F4.out.trans f5)
     clear f5 hO
     go_wp2_with fail
     go_ret
     exact ⟨rfl, F5.out⟩
   | ok m =>
    cases hn : BG.jn l0 y with
    | error g =>
     have s0 := BG.jn_ne hn
     have s1 : ((g : Int) != 0) = true := by simp; omega
     have s2 : ((g : Int) == 0) = false := by simp; omega
     have HM := hideP hm
     have HN := hideP hn
     clear hm hn
     have HX := hideP hx
     have HY := hideP hy
     clear hx hy
     go_enter Tryz.func18, Tryz.ntmps18
     go_wp2_with fail
     have k1 := HF.out w _ _ l0 l1 HR0.out HR1.out HS0.out HS1.out
     rw [HX.out] at k1
     refine k1.mono ?_
     clear k1
     rintro _ w1 ⟨⟨u, rfl, hO⟩, f1⟩
     obtain ⟨xa, xc, rfl⟩ := hO.slice
     have Hx := hideP hO.rows
     have F1 := hideP (f1)
     clear f1 hO
     go_wp2_with fail
     have k2 := HF.out w1 _ _ l1 l2 (HR1.out.fr F1.out) (HR2.out.fr F1.out) HS1.out HS2.out
     rw [HY.out] at k2
     refine k2.mono ?_
     clear k2
     rintro _ w2 ⟨⟨u, rfl, hO⟩, f2⟩
     obtain ⟨ya, yc, rfl⟩ := hO.slice
     have Hy := hideP hO.rows
     replace Hx := hideP (Hx.out.fr f2)
     have F2 := hideP (F1.out.trans f2)
     clear f2 hO
     go_wp2_with fail
     refine (HBg.out _ F2.out).mono ?_
     rintro _ w3 ⟨rfl, f3⟩
     replace Hx := hideP (Hx.out.fr f3)
     replace Hy := hideP (Hy.out.fr f3)
     have F3 := hideP (F2.out.trans f3)
     clear f3
     go_wp2_with fail
     have k4 := HF.out w3 _ _ x l2 Hx.out (HR2.out.fr F3.out) HSx.out HS2.out
     rw [HM.out] at k4
     refine k4.mono ?_
     clear k4
     rintro _ w4 ⟨⟨u, rfl, hO⟩, f4⟩
     obtain ⟨ma, mc, rfl⟩ := hO.slice
     have Hm := hideP hO.rows
     replace Hy := hideP (Hy.out.fr f4)
     have F4 := hideP (F3.out.trans f4)
     clear f4 hO
     go_wp2_with fail
     have k5 := HF.out w4 _ _ l0 y (HR0.out.fr F4.out) Hy.out HS0.out HSy.out
     rw [HN.out] at k5
     refine k5.mono ?_
     clear k5
     rintro _ w5 ⟨rfl, f5⟩
     replace Hm := hideP (Hm.out.fr f5)
     have F5 := hideP (F4.out.trans f5)
     clear f5
     go_wp2_with fail
     go_ret
     exact ⟨rfl, F5.out⟩
    | ok n =>
     obtain rfl := BG.jn_three hx hy hm hn
     have HFm := hideP (jn_fit hm)
     have HM := hideP hm
     have HN := hideP hn
     clear hm hn
     have HX := hideP hx
     have HY := hideP hy
     clear hx hy
     go_enter Tryz.func18, Tryz.ntmps18
     go_wp2_with fail
     have k1 := HF.out w _ _ l0 l1 HR0.out HR1.out HS0.out HS1.out
     rw [HX.out] at k1
     refine k1.mono ?_
     clear k1
     rintro _ w1 ⟨⟨u, rfl, hO⟩, f1⟩
     obtain ⟨xa, xc, rfl⟩ := hO.slice
     have Hx := hideP hO.rows
     have F1 := hideP (f1)
     clear f1 hO
     go_wp2_with fail
     have k2 := HF.out w1 _ _ l1 l2 (HR1.out.fr F1.out) (HR2.out.fr F1.out) HS1.out HS2.out
     rw [HY.out] at k2
     refine k2.mono ?_
     clear k2
     rintro _ w2 ⟨⟨u, rfl, hO⟩, f2⟩
     obtain ⟨ya, yc, rfl⟩ := hO.slice
     have Hy := hideP hO.rows
     replace Hx := hideP (Hx.out.fr f2)
     have F2 := hideP (F1.out.trans f2)
     clear f2 hO
     go_wp2_with fail
     refine (HBg.out _ F2.out).mono ?_
     rintro _ w3 ⟨rfl, f3⟩
     replace Hx := hideP (Hx.out.fr f3)
     replace Hy := hideP (Hy.out.fr f3)
     have F3 := hideP (F2.out.trans f3)
     clear f3
     go_wp2_with fail
     have k4 := HF.out w3 _ _ x l2 Hx.out (HR2.out.fr F3.out) HSx.out HS2.out
     rw [HM.out] at k4
     refine k4.mono ?_
     clear k4
     rintro _ w4 ⟨⟨u, rfl, hO⟩, f4⟩
     obtain ⟨ma, mc, rfl⟩ := hO.slice
     have Hm := hideP hO.rows
     replace Hy := hideP (Hy.out.fr f4)
     have F4 := hideP (F3.out.trans f4)
     clear f4 hO
     go_wp2_with fail
     have k5 := HF.out w4 _ _ l0 y (HR0.out.fr F4.out) Hy.out HS0.out HSy.out
     rw [HN.out] at k5
     refine k5.mono ?_
     clear k5
     rintro _ w5 ⟨⟨u, rfl, hO⟩, f5⟩
     obtain ⟨na, nc, rfl⟩ := hO.slice
     have Hn := hideP hO.rows
     replace Hm := hideP (Hm.out.fr f5)
     have F5 := hideP (F4.out.trans f5)
     clear f5 hO
     go_wp2_with fail
     refine (sameRows_eq _ _ m w5 Hm.out Hn.out (by have := HFm.out.1; omega) (fun r hr => by have := HFm.out.2 r hr; omega)).mono ?_
     rintro _ w6 ⟨rfl, f6⟩
     have F6 := hideP (F5.out.trans f6)
     clear f6
     go_wp2_with fail
     go_ret
     exact ⟨rfl, F6.out⟩

set_option maxRecDepth 100000 in
theorem lifted (os : Go.Os) (started : os.Started) (H : Type) (enc : TypeId × Value → H) :
  ReturnsInHanded {} Tryz.checked os 18 .any (fun w args => (Rows.joinThreeSpec.pre enc Tryz.prog Tryz.f18 [] false w args ∧ laidMetH Tryz.prog Rows.joinThreeRow.laid w) ∧ sizedMet enc Tryz.prog Tryz.f18 (OpenSpec.ofChange Rows.joinThreeSpec) false w args)
   (Rows.joinThreeSpec.post enc Tryz.prog Tryz.f18 false true false false) := by
 refine returnsInHanded_of_change_and (C := Tryz.checked) (X := fun w _ => laidMetH Tryz.prog Rows.joinThreeRow.laid w) (fun _ _ _ hh h => h.of_heap hh) own started (by kernel_rfl) Tryz.func18
  (ChangeSpec.witness_shaped (enc := enc) (C := Tryz.checked) (os := os) (X := fun w _ => laidMetH Tryz.prog Rows.joinThreeRow.laid w) false (World.laidAll Tryz.prog os Rows.joinThreeRow.laid) #[.slice none 0 0, .slice none 0 0, .slice none 0 0] 8 (World.laidAll_os _ _ _)
   (World.shaped_of_ZipB (by kernel_rfl) (by kernel_rfl)) (by kernel_rfl) (by kernel_rfl) (by kernel_rfl)
   (by rw [MakeChecks.laidMetH_plain _ _ _ (by kernel_rfl)]; exact laidMet_laidAll _ (by kernel_rfl) (by kernel_rfl))) ?_
 intro W base args ds gs before hval0 hW hcnd hsz0 hL _
 have hT : Tt W := tabs_of_laid hL
 have hval : ∀ (j : Nat) t v, Tryz.f18.params[j]? = some t → args[j]? = some v → Value.okWide Tryz.prog W .any base t v := hval0
 have hsz : (DataW.weightsEach Tryz.prog (Tryz.f18.params.toList ++ Rows.joinThreeSpec.plain.varTypes Tryz.prog) (ds ++ gs)).all (· ≤ reachBytes) = true := hsz0
 have hW' := hW
 obtain ⟨p, q, hA0, hV, rfl, hfz, hnd⟩ := hW
 have hA : DataW.TrodAll enc Tryz.prog W 0 (fun _ => true) true Tryz.f18.params.toList args.toList ds p := hA0
 rw [Tryz.params18] at hA hval hsz
 obtain ⟨v0, vs0, d0, ds0, p0, q0, hargs, rfl, rfl, h0, r0⟩ := trodAll_cons hA
 obtain ⟨v1, vs1, d1, ds1, p1, q1, rfl, rfl, rfl, h1, r1⟩ := trodAll_cons r0
 obtain ⟨v2, vs2, d2, ds2, p2, q2, rfl, rfl, rfl, h2, r2⟩ := trodAll_cons r1
 obtain ⟨rfl, rfl, rfl⟩ := trodAll_nil r2
 obtain rfl : args = #[v0, v1, v2] := by cases args; simp_all
 obtain ⟨rfl, rfl⟩ := trodVars_none hV
 obtain ⟨l0, rw0, ok0, b0⟩ := open_rws (hval 0 22 v0 rfl rfl) h0 (sized_at hsz (j := 0) rfl rfl)
 obtain ⟨l1, rw1, ok1, b1⟩ := open_rws (hval 1 22 v1 rfl rfl) h1 (sized_at hsz (j := 1) rfl rfl)
 obtain ⟨l2, rw2, ok2, b2⟩ := open_rws (hval 2 22 v2 rfl rfl) h2 (sized_at hsz (j := 2) rfl rfl)
 clear hA0 hval0 hsz0
 refine (walk v0 l0 v1 l1 v2 l2 W hT rw0 ok0 b0 rw1 ok1 b1 rw2 ok2 b2).mono fun e W' ⟨he, bel⟩ => ?_
 subst he
 exact ⟨_, rfl, _, _, _, [], _, [], hW', trodAll_mk1 (shut_bool Tryz.underlying4 _), (trodAll_cons_mk (shut_rws h0 bel) (trodAll_cons_mk (shut_rws h1 bel) (trodAll_cons_mk (shut_rws h2 bel) trodAll_mk0))), rfl, Below.frame bel _, fun h => by cases h⟩
theorem closed : joinedFacts Tryz.prog 18 Tryz.f18 Rows.joinThreeSpec Rows.joinThreeRow = true := by
 unfold joinedFacts
 repeat' (with_reducible refine Bool.and_eq_true_iff.2 ⟨?_, ?_⟩)
 all_goals first
  | with_reducible exact HeadW.mayEnter
  | with_reducible exact laidOut
  | with_reducible exact HeadW.mapsRowed
  | with_reducible exact HeadW.stopsHeard
  | (rw [HeadW.liftsFinal]; as_aux_lemma => kernel_rfl)
  | (rw [HeadW.make]; as_aux_lemma => kernel_rfl)
  | (rw [HeadW.plainKeys]; as_aux_lemma => kernel_rfl)
  | as_aux_lemma => kernel_rfl
theorem over : Rows.joinThreeRow.holds Tryz.pinned (OpenSpec.ofChange Rows.joinThreeSpec) :=
 OpenClaim.holds_of_wide 18 Tryz.f18 rfl rfl rfl rfl rfl rfl rfl ⟨rfl, rfl, rfl, rfl, rfl⟩ rfl rfl rfl rfl rfl (by as_aux_lemma => kernel_rfl) Tryz.func18 closed
  (of_decide_eq_true (by as_aux_lemma => kernel_rfl)) (by unfold Func.isWrapper; first | (rw [if_pos (by decide +kernel)]; kernel_rfl) | (rw [if_neg (by decide +kernel)]; exact ⟨rfl, rfl⟩))
  (fun os started H enc _ => lifted os started H enc)
theorem card : Rows.JoinThreeCardSaid :=
 Claim7.holds_tied_plain_at .later [] [.data, .data, .data, .data, .data, .data, .pinned] true (true, "1ac927b6c31f7e9902634f50ce5f21d6511048fe18fc2768fe9f77e9756654d9") false
  over (fun _ h => by cases h) (by as_aux_lemma => kernel_rfl) (fun _ h => by cases h) joinThree_row_tie rfl ⟨rfl, rfl⟩ HeadW.main rfl
  (fun f fn hf hfn => by
   obtain rfl : f = 18 := Option.some.inj ((show Tryz.prog.funcNamed "starling/starlinglaw.JoinThree" = some 18 by as_aux_lemma => kernel_rfl).symm.trans hf) |>.symm
   obtain rfl : fn = Tryz.f18 := (Option.some.inj (Tryz.func18.symm.trans hfn)).symm
   exact ⟨HeadW.looks.symm, fun j t ht => by
    rw [Tryz.params18] at ht
    have hm : t ∈ [22, 22, 22] := by simpa using Array.mem_of_getElem? ht
    have hall : ([22, 22, 22].all fun u => !Tryz.prog.wantsStandIn u) = true := by as_aux_lemma => kernel_rfl
    exact (show Tryz.prog.wantsStandIn t = false by simpa using List.all_eq_true.1 hall t hm)⟩)
  (by as_aux_lemma => kernel_rfl)
end Go.Proofs.YtoepifbpchpfkaaGreatDoor.joinThreeProof
namespace Go.Proofs.YtoepifbpchpfkaaGreatDoor
theorem joinThree_holds : Rows.JoinThreeCardSaid := joinThreeProof.card
end Go.Proofs.YtoepifbpchpfkaaGreatDoor
