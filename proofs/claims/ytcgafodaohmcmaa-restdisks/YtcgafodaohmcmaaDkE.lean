/-
  What done, Sync and Crash of package disk answer, for every disk.
-/
import Derived.Test.YtcgafodaohmcmaaDkD
import Derived.Laws.CopyOwn
namespace Go.Proofs.Ytcgafodaohmcmaa
open Go.ChangeShapes Go.WideShapes Go.ChangeAt Go.RowKit
set_option linter.unusedVariables false
set_option linter.unusedSimpArgs false
set_option maxRecDepth 100000

set_option maxHeartbeats 400000 in
theorem syncClo_any (i : Int) (w : World) : Calls Try.prog 15 #[.int .i64 i] w fun e w' => e = .returned (.bool true) ∧ w' = w := by
  go_enter Try.func15, Try.ntmps15
  go_wp2
  go_ret
  exact ⟨rfl, rfl⟩
theorem bit_is (m k : Nat) (hm : m < 18446744073709551616) : (bits .and .u64 ((m : Int) / 2 ^ k) 1 == 1) = JN.bits m k := by
  have h1 := u64_and_nat (m / 2 ^ k) 1 (Nat.lt_of_le_of_lt (Nat.div_le_self _ _) hm) (by decide)
  have e : ((m / 2 ^ k : Nat) : Int) = (m : Int) / 2 ^ k := by push_cast; rfl
  rw [e] at h1
  rw [show bits .and .u64 ((m : Int) / 2 ^ k) 1 = ((m / 2 ^ k &&& 1 : Nat) : Int) from h1, nat_mask1, JN.bits, Nat.testBit_eq_decide_div_mod_eq]
  by_cases c : m / 2 ^ k % 2 = 1
  · simp [c]
  · have : m / 2 ^ k % 2 = 0 := by omega
    simp [this]
set_option maxHeartbeats 1000000 in
theorem crashClo_any (i : Nat) (m : Nat) (bx : Nat) (w : World) (hi : i < 64) (hm : m < 18446744073709551616) (hc : w.cell? ⟨bx, 0, none⟩ = some (.int .u64 m)) :
    Calls Try.prog 16 #[.int .i64 i, .pointer (some ⟨bx, 0, none⟩)] w fun e w' => e = .returned (.bool (JN.bits m i)) ∧ w' = w := by
  go_enter Try.func16, Try.ntmps16
  go_wp2_with fail
  go_ret
  exact ⟨ret_bool (bit_is m i hm), rfl⟩
theorem Try.sizeStr : (Try.prog.info? 9).map (·.size) = some 1 := by kernel_rfl
theorem setRow_blk {w : World} {b : Nat} {cur : Array Value} {T : TypeId} (h : Blk w b cur T) (xs : Array Value) : Blk (w.setRow b xs) b xs T := setRow_heap w b cur xs T (0, 0) h
/-- pages laid over an array of blank ones -/
theorem copy_pages (W : World) (b : Nat) (p : Value) (l : List JN.B) (ty : TypeId) (h : Pl W b (List.replicate 32 JN.bl)) (hp : IsL cdP W p l) (hl : l.length ≤ 32) :
    ∃ (W' : World) (k : Nat), (Builtin.copy_ #[22, 22] ty #[.slice (some ⟨b, 0, none⟩) 32 32, p]).run Try.prog W = .ok (goInt k) W' ∧ Pl W' b (JN.places (JN.fn l)) ∧ ∀ B, B ≤ b → Below B W W' := by
  obtain ⟨a, cap, rfl, hcap, hcs⟩ := hp
  by_cases h0 : l = []
  · subst h0
    refine ⟨W, 0, run_copy_none (P := Try.prog) W 22 22 ty 9 _ _ 32 32 _ _ Try.underlying22 Try.sizeStr (by simp), ?_, fun B _ => Below.refl B W⟩
    exact h
  · obtain ⟨g, o, rfl, hg, hc⟩ : ∃ b o, a = some ⟨b, o, none⟩ ∧ b < W.heap.size ∧ At cdP W b o l := by
      rcases hcs with h | h
      · exact absurd h h0
      · exact h
    have hfl : (flat cdP l).length = l.length := by rw [flatP, List.length_map]
    have hr := run_copy_row (P := Try.prog) W 22 22 ty 9 b 0 32 32 ⟨g, o, none⟩ l.length cap (sV (List.replicate 32 JN.bl)) 51 (flat cdP l) Try.underlying22 Try.sizeStr h.at_
      (by rw [hfl]; exact (Nat.min_eq_left hl).symm) (fun j v hj => by rw [Addr.add_lit]; exact hc j v hj) (by rw [hfl, sV_size, List.length_replicate]; omega) (flat_one cdP l)
    refine ⟨_, _, hr, ⟨JN.places_len _, ?_⟩, fun B hB => below_setRow (Below.refl B W) hB _⟩
    have e : ((sV (List.replicate 32 JN.bl)).toList.take 0 ++ flat cdP l ++ (sV (List.replicate 32 JN.bl)).toList.drop (0 + (flat cdP l).length)).toArray = sV (JN.places (JN.fn l)) := by
      rw [← JN.places_fn l hl, hfl]
      simp only [sV, flatP, List.map_append, List.map_replicate, List.take_zero, List.nil_append, Nat.zero_add, List.drop_replicate]
    rw [e]
    exact setRow_blk h.at_ _
theorem Try.sizeArr : (Try.prog.info? 51).map (·.size) = some 32 := by kernel_rfl
theorem Pl.drew {w : World} {b : Nat} {l : List JN.B} (h : Pl w b l) : Pl w.drew b l := ⟨h.len, h.at_⟩
theorem take_map_snoc (l : List JN.W) (i : Nat) (h : i < l.length) : (l.take (i + 1)).map JN.wn = (l.take i).map JN.wn ++ [JN.wn l[i]] := by
  rw [List.take_succ_eq_append_getElem h, List.map_append]; rfl

set_option maxHeartbeats 4000000 in
theorem doneS_any (p q : Value) (d : JN.D)  (w : World) (hr : IsD w p q d) (hb1 : d.pg.length ≤ 9223372036854775806)  :
    Calls Try.prog 14 #[.agg #[p, q], .func (.func 15) #[] #[]] w fun e w' => DAns (JN.crashD d JN.all) w e w' := by
  have c := fun W (f : Fr w W) => check_any p q d W (hr.fr f) hb1
  have hE : JN.crashD d JN.all = if JN.dchk d = 0 then (⟨JN.pagesOf (JN.land (JN.fn d.pg) (d.wt.map JN.wn) JN.all), []⟩, 0) else (JN.none, JN.dchk d) := rfl
  have hok : JN.dchk d = 0 → JN.OkD d := (JN.dchk_ok d).1
  generalize hy : JN.dchk d = y at c hE hok
  clear hy
  by_cases h0 : y = 0
  · subst h0
    rw [if_pos rfl] at hE
    rw [hE]
    obtain ⟨h32, _, _, h48, heach⟩ := hok rfl
    clear hE hok
    obtain ⟨pg, wt⟩ := d
    simp only at *
    obtain ⟨aq, kq, rfl, _, hcs⟩ := hr.2
    have HC := hideP hcs
    have HE := hideP heach
    have HR := hideP hr.1
    clear hr hcs heach
    go_enter Try.func14, Try.ntmps14
    go_wp2_with fail
    refine (c _ (((Fr.refl w).alloc _).alloc _)).mono ?_
    rintro _ w1 ⟨rfl, f1⟩
    have b0 := ((Blk.new w #[p, .slice aq wt.length kq] 25).old (.cells #[.slice none 0 0, .slice none 0 0] 25)).fr f1
    have b1 := (Blk.new (w.alloc (.cells #[p, .slice aq wt.length kq] 25)) #[.slice none 0 0, .slice none 0 0] 25).fr f1
    rw [World.size_alloc] at b1
    have ff : Fr w w1 := (((Fr.refl w).alloc _).alloc _).trans f1
    clear f1 c
    obtain ⟨w2, hw2⟩ : ∃ w2, w1.alloc (.cells #[.string ⟨#[]⟩, .string ⟨#[]⟩, .string ⟨#[]⟩, .string ⟨#[]⟩, .string ⟨#[]⟩, .string ⟨#[]⟩, .string ⟨#[]⟩, .string ⟨#[]⟩, .string ⟨#[]⟩, .string ⟨#[]⟩, .string ⟨#[]⟩, .string ⟨#[]⟩, .string ⟨#[]⟩, .string ⟨#[]⟩, .string ⟨#[]⟩, .string ⟨#[]⟩, .string ⟨#[]⟩, .string ⟨#[]⟩, .string ⟨#[]⟩, .string ⟨#[]⟩, .string ⟨#[]⟩, .string ⟨#[]⟩, .string ⟨#[]⟩, .string ⟨#[]⟩, .string ⟨#[]⟩, .string ⟨#[]⟩, .string ⟨#[]⟩, .string ⟨#[]⟩, .string ⟨#[]⟩, .string ⟨#[]⟩, .string ⟨#[]⟩, .string ⟨#[]⟩] 51) = w2 := ⟨_, rfl⟩
    have hpl : Pl w2 w1.heap.size (List.replicate 32 JN.bl) := ⟨by simp, by rw [← hw2]; exact Blk.new w1 _ 51⟩
    have f2 : Fr w1 w2 := by rw [← hw2]; exact (Fr.refl w1).alloc _
    obtain ⟨P, hP⟩ : ∃ P, w1.heap.size = P := ⟨_, rfl⟩
    obtain ⟨k0, k1, _, _⟩ := (b0.fr f2).two
    obtain ⟨w3, kk, hcp, hpl3, f3⟩ := copy_pages w2.drew P p pg 3 (by rw [← hP]; exact hpl.drew) (HR.out.fr ((ff.trans f2).drew)) h32
    have F3 : Fr w1 w3 := Below.trans (Fr.drew f2) (by rw [hP]; exact f3 P (Nat.le_refl _))
    obtain ⟨k2, k3, _, _⟩ := (b0.fr F3).two
    have HB1 := hideP (b1.fr F3)
    have HP3 := hideP hpl3
    have HF3 := hideP (ff.trans F3)
    have hPw : w.heap.size + 1 < P := by rw [← hP]; exact b1.lt
    clear b0 b1 hpl f2 f3 F3 hpl3 ff
    go_wp2_with fail
    go_region
    clear hcp hw2 k0 k1
    go_wp2_with fail
    go_loopw [8, 9, 23] (fun _ _ iv wr => ∃ i : Nat, iv = .int .i64 i ∧ i ≤ wt.length ∧ Blk wr (w.heap.size + 1) #[.slice none 0 0, .slice none 0 0] 25 ∧ Pl wr P (JN.places (JN.land (JN.fn pg) ((wt.take i).map JN.wn) JN.all)) ∧ Fr w wr) (fun _ _ iv _ => wt.length - (intOf iv).toNat)
    case atStart => exact ⟨0, rfl, Nat.zero_le _, HB1.out, HP3.out, HF3.out⟩
    case round =>
      obtain ⟨i, rfl, hi, hbr, hpr, hfr⟩ := hrel
      by_cases hlt : i < wt.length
      · obtain ⟨b, o, rfl, hb, hc⟩ : ∃ b o, aq = some ⟨b, o, none⟩ ∧ b < w.heap.size ∧ At cdW w b o wt := by
          rcases HC.out with h | h
          · subst h; simp at hlt
          · exact h
        obtain ⟨c0, c1⟩ := (hc.fr hb hfr).wr i hlt
        have hno := (HE.out wt[i] (List.getElem_mem hlt)).1
        have hsn := take_map_snoc wt i hlt
        have hL := JN.land_snoc (JN.wn wt[i]) ((wt.take i).map JN.wn) (JN.fn pg) JN.all
        rw [← hsn, List.length_map, List.length_take, Nat.min_eq_left hi] at hL
        simp only [JN.wn] at hL
        generalize wt[i].no = x1 at c0 hno hL
        generalize wt[i].t = x2 at c1 hL
        obtain ⟨n, rfl⟩ := Int.eq_ofNat_of_zero_le hno.1
        rw [Int.toNat_natCast] at hL
        have HL := hideP hL
        have hn32 : (n : Int) < 32 := by omega
        obtain ⟨wb, hwb⟩ : ∃ wb, wr.alloc (.cells #[.int .i64 (n : Int), .string x2] 27) = wb := ⟨_, rfl⟩
        have fb : Fr wr wb := by rw [← hwb]; exact (Fr.refl wr).alloc _
        have bw : Blk wb wr.heap.size #[.int .i64 (n : Int), .string x2] 27 := by rw [← hwb]; exact Blk.new wr _ _
        have hpb := hpr.fr fb
        have hln : n < (JN.places (JN.land (JN.fn pg) ((wt.take i).map JN.wn) JN.all)).length := by rw [JN.places_len]; omega
        obtain ⟨c2, c3, _, _⟩ := bw.two
        obtain ⟨x4, c4⟩ : ∃ x4, wb.cell? ⟨P, n, none⟩ = some x4 := ⟨_, hpb.cell n hln⟩
        have z4 := hpb.at_.frozen n
        have HPB := hideP hpb
        have HBB := hideP (hbr.fr fb)
        have HFB := hideP (hfr.trans fb)
        clear hc hsn hL hno bw hpb fb hpr hbr hfr hln
        have hclo := syncClo_any (i : Int) wb
        go_wp2_with fail
        refine hclo.mono ?_
        rintro _ wb ⟨rfl, rfl⟩
        clear hclo hwb
        go_wp2_with fail
        go_roundw
        case rel => exact ⟨i + 1, by go_num, by omega, HBB.out.other (by omega) _ _, by rw [HL.out, if_pos (show JN.all i = true from rfl), ← JN.places_upd _ _ _ (by omega)]; exact HPB.out.set n x2, HFB.out.setCell _ _ _ (by omega)⟩
        case measure => simp [intOf]; omega
      · have hi' : i = wt.length := by omega
        subst hi'
        rw [List.take_length] at hpr
        obtain ⟨Y, hY⟩ : ∃ Y, JN.pagesOf (JN.land (JN.fn pg) (wt.map JN.wn) JN.all) = Y := ⟨_, rfl⟩
        have hup := upToLast_any (JN.places (JN.land (JN.fn pg) (wt.map JN.wn) JN.all)) (JN.places_len _) wr
        rw [← JN.pages_eq, hY] at hup
        have h32l : (sV (JN.places (JN.land (JN.fn pg) (wt.map JN.wn) JN.all))).size = 32 := by rw [sV_size, JN.places_len]
        have hat := hpr.at_
        generalize sV (JN.places (JN.land (JN.fn pg) (wt.map JN.wn) JN.all)) = L at hat hup h32l
        have hinf : (Try.prog.info? 51).map (·.size) = some L.size := by rw [h32l]; exact Try.sizeArr
        have HG := hideP hat
        have HY := hideP hY
        have HB2 := hideP hbr
        have HF2 := hideP hfr
        obtain ⟨y2, y3, z2, z3⟩ := hbr.two
        clear hY hpr hbr hfr h32l hat
        go_wp2_with (refine wpList_load_row rfl 51 _ rfl P rfl 51 L (0, 0) _ HG.out Try.underlying51 rfl hinf ?_)
        refine hup.mono ?_
        rintro _ w4 ⟨v, rfl, ho, f4⟩
        obtain ⟨a3, c3, rfl⟩ := own_slice ho
        have HO := hideP ho
        have HF4 := hideP f4
        have HB4 := hideP (HB2.out.fr f4)
        clear y2 y3 z2 z3 ho f4 hup
        obtain ⟨y2, y3, z2, z3⟩ := HB4.out.two
        go_wp2_with fail
        refine bodyPost_ret (v := .tuple #[.agg #[.slice a3 Y.length c3, .slice none 0 0], .int .i64 (0 : Int)]) ?_ rfl ?_
        · obtain ⟨q0, q1, _, _⟩ := HB4.out.put2 (.slice a3 Y.length c3) (.slice none 0 0)
          change (results Try.f14 _).run Try.prog (put2 w4 _ _ _) = .ok _ (put2 w4 _ _ _)
          simp [results, Try.results14, go_sem, q0, q1]
        · refine ⟨_, _, rfl, ⟨?_, World.ownsRow_nil _ _ _ _⟩, (HF2.out.trans HF4.out).set2 _ (by omega) _ _⟩
          rw [HY.out]
          exact own_set2 (own_low HO.out HF2.out.size) HB4.out (by decide)
  · rw [if_neg h0] at hE
    rw [hE]
    have hne : ((y : Int) != 0) = true := by simp; omega
    have hne2 : ¬ ((y : Int) = 0) := by omega
    clear hE hok
    go_enter Try.func14, Try.ntmps14
    go_wp2_with fail
    refine (c _ (((Fr.refl w).alloc _).alloc _)).mono ?_
    rintro _ w1 ⟨rfl, f1⟩
    have b1 := (Blk.new (w.alloc (.cells #[p, q] 25)) #[.slice none 0 0, .slice none 0 0] 25).fr f1
    rw [World.size_alloc] at b1
    obtain ⟨k2, k3, z2, z3⟩ := b1.two
    have ff : Fr w w1 := (((Fr.refl w).alloc _).alloc _).trans f1
    have HB := hideP b1
    have HF := hideP ff
    clear b1 f1 ff
    go_wp2_with fail
    refine bodyPost_ret (v := .tuple #[.agg #[.slice none 0 0, .slice none 0 0], .int .i64 (y : Int)]) ?_ rfl ?_
    · obtain ⟨q0, q1, _, _⟩ := (HB.out.set2 (.slice none 0 0) (.slice none 0 0)).two
      simp [results, Try.results14, go_sem, q0, q1]
    · exact ⟨_, _, rfl, own_none _ _, HF.out.set2 _ (by omega) _ _⟩

set_option maxHeartbeats 4000000 in
theorem doneC_any (p q : Value) (d : JN.D) (m bx : Nat) (w : World) (hr : IsD w p q d) (hb1 : d.pg.length ≤ 9223372036854775806) (hbx : bx < w.heap.size) (hmm : m < 18446744073709551616) (hcb : w.cell? ⟨bx, 0, none⟩ = some (.int .u64 m)) :
    Calls Try.prog 14 #[.agg #[p, q], .func (.func 16) #[] #[.pointer (some ⟨bx, 0, none⟩)]] w fun e w' => DAns (JN.crashD d (JN.bits m)) w e w' := by
  have c := fun W (f : Fr w W) => check_any p q d W (hr.fr f) hb1
  have hE : JN.crashD d (JN.bits m) = if JN.dchk d = 0 then (⟨JN.pagesOf (JN.land (JN.fn d.pg) (d.wt.map JN.wn) (JN.bits m)), []⟩, 0) else (JN.none, JN.dchk d) := rfl
  have hok : JN.dchk d = 0 → JN.OkD d := (JN.dchk_ok d).1
  generalize hy : JN.dchk d = y at c hE hok
  clear hy
  by_cases h0 : y = 0
  · subst h0
    rw [if_pos rfl] at hE
    rw [hE]
    obtain ⟨h32, _, _, h48, heach⟩ := hok rfl
    clear hE hok
    obtain ⟨pg, wt⟩ := d
    simp only at *
    obtain ⟨aq, kq, rfl, _, hcs⟩ := hr.2
    have HC := hideP hcs
    have HE := hideP heach
    have HR := hideP hr.1
    clear hr hcs heach
    go_enter Try.func14, Try.ntmps14
    go_wp2_with fail
    refine (c _ (((Fr.refl w).alloc _).alloc _)).mono ?_
    rintro _ w1 ⟨rfl, f1⟩
    have b0 := ((Blk.new w #[p, .slice aq wt.length kq] 25).old (.cells #[.slice none 0 0, .slice none 0 0] 25)).fr f1
    have b1 := (Blk.new (w.alloc (.cells #[p, .slice aq wt.length kq] 25)) #[.slice none 0 0, .slice none 0 0] 25).fr f1
    rw [World.size_alloc] at b1
    have ff : Fr w w1 := (((Fr.refl w).alloc _).alloc _).trans f1
    clear f1 c
    obtain ⟨w2, hw2⟩ : ∃ w2, w1.alloc (.cells #[.string ⟨#[]⟩, .string ⟨#[]⟩, .string ⟨#[]⟩, .string ⟨#[]⟩, .string ⟨#[]⟩, .string ⟨#[]⟩, .string ⟨#[]⟩, .string ⟨#[]⟩, .string ⟨#[]⟩, .string ⟨#[]⟩, .string ⟨#[]⟩, .string ⟨#[]⟩, .string ⟨#[]⟩, .string ⟨#[]⟩, .string ⟨#[]⟩, .string ⟨#[]⟩, .string ⟨#[]⟩, .string ⟨#[]⟩, .string ⟨#[]⟩, .string ⟨#[]⟩, .string ⟨#[]⟩, .string ⟨#[]⟩, .string ⟨#[]⟩, .string ⟨#[]⟩, .string ⟨#[]⟩, .string ⟨#[]⟩, .string ⟨#[]⟩, .string ⟨#[]⟩, .string ⟨#[]⟩, .string ⟨#[]⟩, .string ⟨#[]⟩, .string ⟨#[]⟩] 51) = w2 := ⟨_, rfl⟩
    have hpl : Pl w2 w1.heap.size (List.replicate 32 JN.bl) := ⟨by simp, by rw [← hw2]; exact Blk.new w1 _ 51⟩
    have f2 : Fr w1 w2 := by rw [← hw2]; exact (Fr.refl w1).alloc _
    obtain ⟨P, hP⟩ : ∃ P, w1.heap.size = P := ⟨_, rfl⟩
    obtain ⟨k0, k1, _, _⟩ := (b0.fr f2).two
    obtain ⟨w3, kk, hcp, hpl3, f3⟩ := copy_pages w2.drew P p pg 3 (by rw [← hP]; exact hpl.drew) (HR.out.fr ((ff.trans f2).drew)) h32
    have F3 : Fr w1 w3 := Below.trans (Fr.drew f2) (by rw [hP]; exact f3 P (Nat.le_refl _))
    obtain ⟨k2, k3, _, _⟩ := (b0.fr F3).two
    have HB1 := hideP (b1.fr F3)
    have HP3 := hideP hpl3
    have HF3 := hideP (ff.trans F3)
    have hPw : w.heap.size + 1 < P := by rw [← hP]; exact b1.lt
    clear b0 b1 hpl f2 f3 F3 hpl3 ff
    go_wp2_with fail
    go_region
    clear hcp hw2 k0 k1
    go_wp2_with fail
    go_loopw [8, 9, 23] (fun _ _ iv wr => ∃ i : Nat, iv = .int .i64 i ∧ i ≤ wt.length ∧ Blk wr (w.heap.size + 1) #[.slice none 0 0, .slice none 0 0] 25 ∧ Pl wr P (JN.places (JN.land (JN.fn pg) ((wt.take i).map JN.wn) (JN.bits m))) ∧ Fr w wr) (fun _ _ iv _ => wt.length - (intOf iv).toNat)
    case atStart => exact ⟨0, rfl, Nat.zero_le _, HB1.out, HP3.out, HF3.out⟩
    case round =>
      obtain ⟨i, rfl, hi, hbr, hpr, hfr⟩ := hrel
      by_cases hlt : i < wt.length
      · obtain ⟨b, o, rfl, hb, hc⟩ : ∃ b o, aq = some ⟨b, o, none⟩ ∧ b < w.heap.size ∧ At cdW w b o wt := by
          rcases HC.out with h | h
          · subst h; simp at hlt
          · exact h
        obtain ⟨c0, c1⟩ := (hc.fr hb hfr).wr i hlt
        have hno := (HE.out wt[i] (List.getElem_mem hlt)).1
        have hsn := take_map_snoc wt i hlt
        have hL := JN.land_snoc (JN.wn wt[i]) ((wt.take i).map JN.wn) (JN.fn pg) (JN.bits m)
        rw [← hsn, List.length_map, List.length_take, Nat.min_eq_left hi] at hL
        simp only [JN.wn] at hL
        generalize wt[i].no = x1 at c0 hno hL
        generalize wt[i].t = x2 at c1 hL
        obtain ⟨n, rfl⟩ := Int.eq_ofNat_of_zero_le hno.1
        rw [Int.toNat_natCast] at hL
        have HL := hideP hL
        have hn32 : (n : Int) < 32 := by omega
        obtain ⟨wb, hwb⟩ : ∃ wb, wr.alloc (.cells #[.int .i64 (n : Int), .string x2] 27) = wb := ⟨_, rfl⟩
        have fb : Fr wr wb := by rw [← hwb]; exact (Fr.refl wr).alloc _
        have bw : Blk wb wr.heap.size #[.int .i64 (n : Int), .string x2] 27 := by rw [← hwb]; exact Blk.new wr _ _
        have hpb := hpr.fr fb
        have hln : n < (JN.places (JN.land (JN.fn pg) ((wt.take i).map JN.wn) (JN.bits m))).length := by rw [JN.places_len]; omega
        obtain ⟨c2, c3, _, _⟩ := bw.two
        obtain ⟨x4, c4⟩ : ∃ x4, wb.cell? ⟨P, n, none⟩ = some x4 := ⟨_, hpb.cell n hln⟩
        have z4 := hpb.at_.frozen n
        have HPB := hideP hpb
        have HBB := hideP (hbr.fr fb)
        have HFB := hideP (hfr.trans fb)
        clear hc hsn hL hno bw hpb fb hpr hbr hfr hln
        have hclo := crashClo_any i m bx wb (by omega) hmm ((Below.cell HFB.out (p := ⟨bx, 0, none⟩) hbx).trans hcb)
        generalize hbit : JN.bits m i = bb at HL hclo
        clear hbit
        go_wp2_with fail
        refine hclo.mono ?_
        rintro _ wb ⟨rfl, rfl⟩
        clear hclo hwb
        cases bb with
        | true =>
          go_wp2_with fail
          go_roundw
          case rel => exact ⟨i + 1, by go_num, by omega, HBB.out.other (by omega) _ _, by rw [HL.out, if_pos trivial, ← JN.places_upd _ _ _ (by omega)]; exact HPB.out.set n x2, HFB.out.setCell _ _ _ (by omega)⟩
          case measure => simp [intOf]; omega
        | false =>
          go_wp2_with fail
          go_roundw
          case rel => exact ⟨i + 1, by go_num, by omega, HBB.out, by rw [HL.out, if_neg (by simp)]; exact HPB.out, HFB.out⟩
          case measure => simp [intOf]; omega
      · have hi' : i = wt.length := by omega
        subst hi'
        rw [List.take_length] at hpr
        obtain ⟨Y, hY⟩ : ∃ Y, JN.pagesOf (JN.land (JN.fn pg) (wt.map JN.wn) (JN.bits m)) = Y := ⟨_, rfl⟩
        have hup := upToLast_any (JN.places (JN.land (JN.fn pg) (wt.map JN.wn) (JN.bits m))) (JN.places_len _) wr
        rw [← JN.pages_eq, hY] at hup
        have h32l : (sV (JN.places (JN.land (JN.fn pg) (wt.map JN.wn) (JN.bits m)))).size = 32 := by rw [sV_size, JN.places_len]
        have hat := hpr.at_
        generalize sV (JN.places (JN.land (JN.fn pg) (wt.map JN.wn) (JN.bits m))) = L at hat hup h32l
        have hinf : (Try.prog.info? 51).map (·.size) = some L.size := by rw [h32l]; exact Try.sizeArr
        have HG := hideP hat
        have HY := hideP hY
        have HB2 := hideP hbr
        have HF2 := hideP hfr
        obtain ⟨y2, y3, z2, z3⟩ := hbr.two
        clear hY hpr hbr hfr h32l hat
        go_wp2_with (refine wpList_load_row rfl 51 _ rfl P rfl 51 L (0, 0) _ HG.out Try.underlying51 rfl hinf ?_)
        refine hup.mono ?_
        rintro _ w4 ⟨v, rfl, ho, f4⟩
        obtain ⟨a3, c3, rfl⟩ := own_slice ho
        have HO := hideP ho
        have HF4 := hideP f4
        have HB4 := hideP (HB2.out.fr f4)
        clear y2 y3 z2 z3 ho f4 hup
        obtain ⟨y2, y3, z2, z3⟩ := HB4.out.two
        go_wp2_with fail
        refine bodyPost_ret (v := .tuple #[.agg #[.slice a3 Y.length c3, .slice none 0 0], .int .i64 (0 : Int)]) ?_ rfl ?_
        · obtain ⟨q0, q1, _, _⟩ := HB4.out.put2 (.slice a3 Y.length c3) (.slice none 0 0)
          change (results Try.f14 _).run Try.prog (put2 w4 _ _ _) = .ok _ (put2 w4 _ _ _)
          simp [results, Try.results14, go_sem, q0, q1]
        · refine ⟨_, _, rfl, ⟨?_, World.ownsRow_nil _ _ _ _⟩, (HF2.out.trans HF4.out).set2 _ (by omega) _ _⟩
          rw [HY.out]
          exact own_set2 (own_low HO.out HF2.out.size) HB4.out (by decide)
  · rw [if_neg h0] at hE
    rw [hE]
    have hne : ((y : Int) != 0) = true := by simp; omega
    have hne2 : ¬ ((y : Int) = 0) := by omega
    clear hE hok
    go_enter Try.func14, Try.ntmps14
    go_wp2_with fail
    refine (c _ (((Fr.refl w).alloc _).alloc _)).mono ?_
    rintro _ w1 ⟨rfl, f1⟩
    have b1 := (Blk.new (w.alloc (.cells #[p, q] 25)) #[.slice none 0 0, .slice none 0 0] 25).fr f1
    rw [World.size_alloc] at b1
    obtain ⟨k2, k3, z2, z3⟩ := b1.two
    have ff : Fr w w1 := (((Fr.refl w).alloc _).alloc _).trans f1
    have HB := hideP b1
    have HF := hideP ff
    clear b1 f1 ff
    go_wp2_with fail
    refine bodyPost_ret (v := .tuple #[.agg #[.slice none 0 0, .slice none 0 0], .int .i64 (y : Int)]) ?_ rfl ?_
    · obtain ⟨q0, q1, _, _⟩ := (HB.out.set2 (.slice none 0 0) (.slice none 0 0)).two
      simp [results, Try.results14, go_sem, q0, q1]
    · exact ⟨_, _, rfl, own_none _ _, HF.out.set2 _ (by omega) _ _⟩

set_option maxHeartbeats 1000000 in
theorem sync_any (p q : Value) (d : JN.D) (w : World) (hr : IsD w p q d) (hb1 : d.pg.length ≤ 9223372036854775806) :
    Calls Try.prog 6 #[.agg #[p, q]] w fun e w' => DAns (JN.crashD d JN.all) w e w' := by
  have c := fun W (f : Fr w W) => doneS_any p q d W (hr.fr f) hb1
  clear hr
  generalize JN.crashD d JN.all = r at c
  go_enter Try.func6, Try.ntmps6
  go_wp2_with fail
  refine (c _ (((Fr.refl w).alloc _).alloc _)).mono ?_
  rintro _ w1 ⟨p1, q1, rfl, ho, f1⟩
  obtain ⟨a1, c1, rfl⟩ := own_slice ho.pg
  obtain ⟨a2, c2, rfl⟩ := own_slice ho.wt
  have b1 := (Blk.new (w.alloc (.cells #[p, q] 25)) #[.slice none 0 0, .slice none 0 0] 25).fr f1
  rw [World.size_alloc] at b1
  obtain ⟨k2, k3, z2, z3⟩ := b1.two
  have HB := hideP b1
  have HO := hideP ho
  have HF : Hid (Fr w w1) := (((Fr.refl w).alloc _).alloc _).trans f1
  clear b1 f1 ho c
  go_wp2_with fail
  refine bodyPost_ret (v := .tuple #[.agg #[.slice a1 r.1.pg.length c1, .slice a2 r.1.wt.length c2], .int .i64 (r.2 : Int)]) ?_ rfl ?_
  · obtain ⟨q0, q1, _, _⟩ := HB.out.put2 (.slice a1 r.1.pg.length c1) (.slice a2 r.1.wt.length c2)
    change (results Try.f6 _).run Try.prog (put2 w1 _ _ _) = .ok _ (put2 w1 _ _ _)
    simp [results, Try.results6, go_sem, q0, q1]
  · refine ⟨_, _, rfl, ⟨?_, ?_⟩, HF.out.set2 _ (by omega) _ _⟩
    · exact own_set2 (own_low HO.out.pg (by simp; omega)) HB.out (by decide)
    · exact own_set2 (own_low HO.out.wt (by simp; omega)) HB.out (by decide)
set_option maxHeartbeats 1000000 in
theorem crash_any (p q : Value) (d : JN.D) (m : Nat) (w : World) (hr : IsD w p q d) (hb1 : d.pg.length ≤ 9223372036854775806) (hm : m < 18446744073709551616) :
    Calls Try.prog 7 #[.agg #[p, q], .int .u64 m] w fun e w' => DAns (JN.crashD d (JN.bits m)) w e w' := by
  have c := fun W (f : Fr w W) bx hbx hcb => doneC_any p q d m bx W (hr.fr f) hb1 hbx hm hcb
  clear hr
  generalize JN.crashD d (JN.bits m) = r at c
  obtain ⟨W0, hW0⟩ : ∃ W0, ((w.alloc (.cells #[p, q] 25)).alloc (.cells #[.int .u64 m] 34)).alloc (.cells #[.slice none 0 0, .slice none 0 0] 25) = W0 := ⟨_, rfl⟩
  have f0 : Fr w W0 := by rw [← hW0]; exact (((Fr.refl w).alloc _).alloc _).alloc _
  have bm : Blk W0 (w.heap.size + 1) #[.int .u64 m] 34 := by
    have := (Blk.new (w.alloc (.cells #[p, q] 25)) #[.int .u64 m] 34).old (.cells #[.slice none 0 0, .slice none 0 0] 25)
    rw [World.size_alloc, hW0] at this
    exact this
  have br : Blk W0 (w.heap.size + 1 + 1) #[.slice none 0 0, .slice none 0 0] 25 := by
    have := Blk.new ((w.alloc (.cells #[p, q] 25)).alloc (.cells #[.int .u64 m] 34)) #[.slice none 0 0, .slice none 0 0] 25
    rw [World.size_alloc, World.size_alloc, hW0] at this
    exact this
  have bd : Blk W0 w.heap.size #[p, q] 25 := by
    have := ((Blk.new w #[p, q] 25).old (.cells #[.int .u64 m] 34)).old (.cells #[.slice none 0 0, .slice none 0 0] 25)
    rw [hW0] at this
    exact this
  obtain ⟨k0, k1, _, _⟩ := bd.two
  have cc := c W0 f0 (w.heap.size + 1) bm.lt (bm.cell 0 rfl)
  have HF0 := hideP f0
  have HR := hideP br
  clear c f0 bm br bd
  go_enter Try.func7, Try.ntmps7
  go_wp2_with fail
  refine cc.mono ?_
  rintro _ w1 ⟨p1, q1, rfl, ho, f1⟩
  obtain ⟨a1, c1, rfl⟩ := own_slice ho.pg
  obtain ⟨a2, c2, rfl⟩ := own_slice ho.wt
  have b1 := HR.out.fr f1
  obtain ⟨k2, k3, z2, z3⟩ := b1.two
  have HB := hideP b1
  have HO := hideP ho
  have HF : Hid (Fr w w1) := HF0.out.trans f1
  clear b1 f1 ho cc hW0
  go_wp2_with fail
  refine bodyPost_ret (v := .tuple #[.agg #[.slice a1 r.1.pg.length c1, .slice a2 r.1.wt.length c2], .int .i64 (r.2 : Int)]) ?_ rfl ?_
  · obtain ⟨q0, q1, _, _⟩ := HB.out.put2 (.slice a1 r.1.pg.length c1) (.slice a2 r.1.wt.length c2)
    change (results Try.f7 _).run Try.prog (put2 w1 _ _ _) = .ok _ (put2 w1 _ _ _)
    simp [results, Try.results7, go_sem, q0, q1]
  · refine ⟨_, _, rfl, ⟨?_, ?_⟩, HF.out.set2 _ (by omega) _ _⟩
    · exact own_set2 (own_low HO.out.pg HF0.out.size) HB.out (by decide)
    · exact own_set2 (own_low HO.out.wt HF0.out.size) HB.out (by decide)
end Go.Proofs.Ytcgafodaohmcmaa
