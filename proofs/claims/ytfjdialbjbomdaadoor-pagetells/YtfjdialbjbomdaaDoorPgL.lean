/-
  The document's own PageBytes.
-/
import Derived.Test.YtfjdialbjbomdaaDoorPgK
namespace Go.Proofs.YtfjdialbjbomdaaDoor
open Go.ChangeShapes Go.WideShapes Go.ChangeAt Go.RowKit
set_option linter.unusedVariables false
set_option linter.unusedSimpArgs false

def twS (x : Int) : ByteArray := ⟨(PG.two x.toNat).toArray⟩
theorem twS_size (x : Int) : (twS x).size = 2 := rfl
structure In16 (x : Int) : Prop where
  lo : 0 ≤ x
  hi : x < 65536
structure In8 (x : Int) : Prop where
  lo : 0 ≤ x
  hi : x < 256
theorem twS_any (x : Int) (w : World) (h : In16 x) : Calls Tryd.prog 23 #[.int .i64 x] w fun e w' => e = .returned (.string (twS x)) ∧ Fr w w' := by
  obtain ⟨h0, h1⟩ := h
  obtain ⟨n, rfl⟩ := Int.eq_ofNat_of_zero_le h0
  unfold twS
  rw [Int.toNat_natCast]
  exact twoBytes_any n w (by omega)
def oneS (x : Int) : ByteArray := ⟨[UInt8.ofNat x.toNat].toArray⟩
theorem oneS_size (x : Int) : (oneS x).size = 1 := rfl
theorem oneS_any (x : Int) (w : World) (h : In8 x) : Calls Tryd.prog 24 #[.int .i64 x] w fun e w' => e = .returned (.string (oneS x)) ∧ Fr w w' := by
  obtain ⟨h0, h1⟩ := h
  obtain ⟨n, rfl⟩ := Int.eq_ofNat_of_zero_le h0
  unfold oneS
  rw [Int.toNat_natCast]
  exact oneByte_any n w (by omega)
theorem Fr.after {a b c : World} (k : Fr b c) (h : Fr a b) : Fr a c := h.trans k
theorem Bp.after {w w' : World} {g : Nat} {a b c : Int} {s : ByteArray} (f : Fr w w') (h : Bp w g a b c s) : Bp w' g a b c s := h.fr f
abbrev Bc (W : World) (g : Nat) (no kind owner : Int) (s : ByteArray) : Prop := W.cell? ⟨g, 0, none⟩ = some (.int .i64 no) ∧ W.cell? ⟨g, 1, none⟩ = some (.int .i64 kind) ∧ W.cell? ⟨g, 2, none⟩ = some (.int .i64 owner) ∧ W.cell? ⟨g, 3, none⟩ = some (.string s)
theorem Bc.after {w w' : World} {g : Nat} {a b c : Int} {s : ByteArray} (f : Fr w w') (h : Bc w g a b c s) : Bc w' g a b c s := ⟨cell_fr h.1 f, cell_fr h.2.1 f, cell_fr h.2.2.1 f, cell_fr h.2.2.2 f⟩

set_option maxRecDepth 100000 in
set_option maxHeartbeats 2000000 in
theorem pageBytes_core (no kind owner : Int) (s Z N F S X : ByteArray) (n : Nat) (w : World) (hZ : twS no ++ oneS kind ++ twS owner ++ twS (s.size : Int) ++ s = Z) (hZs : Z.size + n = 252) (hF : Z ++ N = F) (hX : F ++ S = X) (hN : N.size = n) (hS : S.size = 4) (hFs : F.size = 252)
    (cn : ∀ W, Calls Tryd.prog 17 #[.int .i64 (n : Int)] W fun e w' => e = .returned (.string N) ∧ Fr W w') (cs : ∀ W, Calls Tryd.prog 25 #[.string F] W fun e w' => e = .returned (.string S) ∧ Fr W w') (h1 : In16 no) (h2 : In8 kind) (h3 : In16 owner) (h4 : s.size ≤ 245) :
    Calls Tryd.prog 12 #[.agg #[.int .i64 no, .int .i64 kind, .int .i64 owner, .string s]] w fun e w' => e = .returned (.string X) ∧ Fr w w' := by
  obtain ⟨W0, hW0⟩ : ∃ W0, w.alloc (.cells #[.int .i64 no, .int .i64 kind, .int .i64 owner, .string s] 23) = W0 := ⟨_, rfl⟩
  have f0 : Fr w W0 := by rw [← hW0]; exact (Fr.refl w).alloc _
  have b0 : Bp W0 w.heap.size no kind owner s := by rw [← hW0]; exact Bp.new _ _ _ _ _
  obtain ⟨g, hg⟩ : ∃ g, w.heap.size = g := ⟨_, rfl⟩
  rw [hg] at b0
  have B0 : Bc W0 g no kind owner s := ⟨b0.c0, b0.c1, b0.c2, b0.c3⟩
  have h5 : In16 (s.size : Int) := ⟨by omega, by omega⟩
  have zA : (twS no).size = 2 := rfl
  have zB : (oneS kind).size = 1 := rfl
  have zC : (twS owner).size = 2 := rfl
  have zD : (twS (s.size : Int)).size = 2 := rfl
  have e1 : (twS no ++ oneS kind).size = 3 := by rw [ByteArray.size_append, zA, zB]
  have e2 : (twS no ++ oneS kind ++ twS owner).size = 5 := by rw [ByteArray.size_append, e1, zC]
  have e3 : (twS no ++ oneS kind ++ twS owner ++ twS (s.size : Int)).size = 7 := by rw [ByteArray.size_append, e2, zD]
  have n1 : (9223372036854775807 < (twS no).size + (oneS kind).size) = False := by rw [zA, zB]; simp
  have n2 : (9223372036854775807 < (twS no ++ oneS kind).size + (twS owner).size) = False := by rw [e1, zC]; simp
  have n3 : (9223372036854775807 < (twS no ++ oneS kind ++ twS owner).size + (twS (s.size : Int)).size) = False := by rw [e2, zD]; simp
  have n4 : (9223372036854775807 < (twS no ++ oneS kind ++ twS owner ++ twS (s.size : Int)).size + s.size) = False := by rw [e3]; simp; omega
  have m2 : (9223372036854775807 < (twS no).size + (oneS kind).size + (twS owner).size) = False := by rw [zA, zB, zC]; simp
  have m3 : (9223372036854775807 < (twS no).size + (oneS kind).size + (twS owner).size + (twS (s.size : Int)).size) = False := by rw [zA, zB, zC, zD]; simp
  have m4 : (9223372036854775807 < (twS no).size + (oneS kind).size + (twS owner).size + (twS (s.size : Int)).size + s.size) = False := by rw [zA, zB, zC, zD]; simp; omega
  clear e1 e2 e3 zA zB zC zD
  have HF : Hid _ := f0
  have HZ : Hid _ := hZ
  have HFF : Hid _ := hF
  have HX : Hid _ := hX
  clear hZ hF hX
  have H1 : Hid _ := h1
  have H2 : Hid _ := h2
  have H3 : Hid _ := h3
  have H5 : Hid _ := h5
  clear f0 b0 h1 h2 h3 h5
  go_enter Tryd.func12, Tryd.ntmps12
  go_wp2_with fail
  clear hW0
  go_region_held3 (fun W' => W'.cell? ⟨g, 0, none⟩ = some (.int .i64 no) ∧ W'.cell? ⟨g, 1, none⟩ = some (.int .i64 kind) ∧ W'.cell? ⟨g, 2, none⟩ = some (.int .i64 owner) ∧ W'.cell? ⟨g, 3, none⟩ = some (.string s)) (first | exact B0 | assumption | exact Bc.after (by assumption) (by assumption)) (first
    | (go_at_call 23; refine (twS_any _ _ (by first | exact H1.out | exact H3.out | exact H5.out)).mono ?_; rintro e wa ⟨rfl, hfx⟩)
    | (go_at_call 24; refine (oneS_any _ _ H2.out).mono ?_; rintro e wb ⟨rfl, hfx⟩))
  have FA : Hid (Fr w wa) := Fr.trans HF.out (Fr.after hfx (Fr.after (by assumption) (Fr.after (by assumption) (Fr.after (by assumption) (Fr.drew (Fr.refl _))))))
  rw [HZ.out]
  clear n1 n2 n3 n4 m2 m3 m4 hfx B0
  have hzn : 252 - (Z.size : Int) = (n : Int) := by omega
  have hz1 : (Z.size : Int) + (N.size : Int) ≤ 9223372036854775807 := by omega
  have hz2 : Z.size + N.size ≤ 9223372036854775807 := by omega
  go_wp2_with fail
  refine (cn _).mono ?_
  rintro _ w2 ⟨rfl, f2⟩
  have F2 : Hid (Fr w w2) := FA.out.trans f2
  clear f2 FA cn
  go_wp2_with fail
  rw [HFF.out]
  refine (cs _).mono ?_
  rintro _ w3 ⟨rfl, f3⟩
  have F3 : Hid (Fr w w3) := F2.out.trans f3
  clear f3 F2 cs
  go_wp2_with fail
  go_ret
  exact ⟨by rw [← HX.out]; rfl, F3.out⟩

theorem pageBytes_any (p : PG.Pg) (w : World) (h : PG.chk p = 0) : Calls Tryd.prog 12 #[pgV p] w fun e w' => e = .returned (.string ⟨(PG.sld p).toArray⟩) ∧ Fr w w' := by
  obtain ⟨h1, h2, h3, h4⟩ := PG.chk_ok h
  have hsz := mk_size p.body
  have hl := PG.front_len h
  have e4 : (PG.four (SM.more 0 (PG.front p))).length = 4 := rfl
  refine pageBytes_core p.no p.kind p.owner ⟨p.body.toArray⟩ ⟨(PG.two p.no.toNat ++ [UInt8.ofNat p.kind.toNat] ++ PG.two p.owner.toNat ++ PG.two p.body.length ++ p.body).toArray⟩ ⟨(PG.noughts (245 - p.body.length)).toArray⟩ ⟨(PG.front p).toArray⟩ ⟨(PG.four (SM.more 0 (PG.front p))).toArray⟩ _ (245 - p.body.length) w ?_ ?_ ?_ ?_ ?_ ?_ ?_ (fun W => noughts_any _ W (by omega)) (fun W => ?_) ⟨by omega, by omega⟩ ⟨by omega, by omega⟩ ⟨by omega, by omega⟩ (by rw [hsz]; exact h4)
  · unfold twS oneS
    rw [hsz, Int.toNat_natCast, ba_app, ba_app, ba_app, ba_app]
  · rw [mk_size]
    simp only [List.length_append, PG.two, List.length_cons, List.length_nil]
    omega
  · rw [ba_app]
    rfl
  · rw [ba_app]
    rfl
  · rw [mk_size, noughts_len]
  · rw [mk_size]
    exact e4
  · rw [mk_size]
    exact hl
  · have := sumBytes_any ⟨(PG.front p).toArray⟩ W (by rw [mk_size, hl]; decide)
    exact this
end Go.Proofs.YtfjdialbjbomdaaDoor
