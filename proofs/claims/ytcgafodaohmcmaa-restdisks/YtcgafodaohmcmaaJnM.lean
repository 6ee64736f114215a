/-
  A journal: all or nothing behind any crash. Plain functions; nothing of the dump.
-/
set_option linter.unusedVariables false
namespace Go.Proofs.Ytcgafodaohmcmaa
namespace JN
variable {T : Type}
abbrev Pg (T : Type) := Nat → T
abbrev Wr (T : Type) := Nat × T
def upd (p : Pg T) (n : Nat) (t : T) : Pg T := fun i => if i = n then t else p i
/-- of the writes just those whose bit is set, in order -/
def land (p : Pg T) : List (Wr T) → (Nat → Bool) → Pg T
  | [], _ => p
  | w :: l, m => land (if m 0 then upd p w.1 w.2 else p) l (fun i => m (i + 1))
def all : Nat → Bool := fun _ => true
def nos (l : List (Wr T)) : List Nat := l.map Prod.fst

theorem land_out {n : Nat} : ∀ (l : List (Wr T)) (p : Pg T) (m : Nat → Bool), n ∉ nos l → land p l m n = p n
  | [], _, _, _ => rfl
  | w :: l, p, m, h => by
    simp only [nos, List.map_cons, List.mem_cons, not_or] at h
    rw [land, land_out l _ _ h.2]
    by_cases hm : m 0
    · simp [hm, upd, h.1]
    · simp [hm]

theorem land_cover : ∀ (l : List (Wr T)) (p q : Pg T), (∀ n, n ∉ nos l → p n = q n) → land p l all = land q l all
  | [], p, q, h => by
    have : p = q := funext fun n => h n (by simp [nos])
    rw [this]
  | w :: l, p, q, h => by
    show land (upd p w.1 w.2) l all = land (upd q w.1 w.2) l all
    refine land_cover l _ _ fun n hn => ?_
    by_cases e : n = w.1
    · simp [upd, e]
    · simp only [upd, e, if_false]
      exact h n (by simpa [nos, e] using hn)

/-- the old pages again -/
theorem land_back (l : List (Wr T)) (o p : Pg T) (h : ∀ n, n ∉ nos l → p n = o n) :
    land p (l.map fun w => (w.1, o w.1)) all = o := by
  have e : nos (l.map fun w => (w.1, o w.1)) = nos l := by simp [nos, List.map_map, Function.comp_def]
  rw [land_cover _ p o (by rw [e]; exact h)]
  clear h e
  induction l with
  | nil => rfl
  | cons w l ih =>
    show land (upd o w.1 (o w.1)) _ all = o
    have : upd o w.1 (o w.1) = o := funext fun n => by by_cases e : n = w.1 <;> simp [upd, e]
    rw [this]; exact ih

theorem land_append : ∀ (a b : List (Wr T)) (p : Pg T), land p (a ++ b) all = land (land p a all) b all
  | [], _, _ => rfl
  | w :: a, b, p => land_append a b _

structure Dk (T : Type) where
  pg : Pg T
  wt : List (Wr T)
structure St (T : Type) where
  da : Dk T
  jo : Dk T
structure Op (T : Type) where
  v : (Wr T ⊕ Wr T) ⊕ Bool
abbrev Op.data (n : Nat) (t : T) : Op T := ⟨.inl (.inl (n, t))⟩
abbrev Op.jour (n : Nat) (t : T) : Op T := ⟨.inl (.inr (n, t))⟩
abbrev Op.syncD : Op T := ⟨.inr true⟩
abbrev Op.syncJ : Op T := ⟨.inr false⟩
def Dk.write (d : Dk T) (n : Nat) (t : T) : Dk T := ⟨d.pg, d.wt ++ [(n, t)]⟩
def Dk.crash (d : Dk T) (m : Nat → Bool) : Dk T := ⟨land d.pg d.wt m, []⟩
def one (s : St T) (o : Op T) : St T := match o.v with
  | .inl (.inl w) => ⟨s.da.write w.1 w.2, s.jo⟩
  | .inl (.inr w) => ⟨s.da, s.jo.write w.1 w.2⟩
  | .inr true => ⟨s.da.crash all, s.jo⟩
  | .inr false => ⟨s.da, s.jo.crash all⟩
def play (s : St T) (l : List (Op T)) : St T := l.foldl one s
theorem play_append (s : St T) (a b : List (Op T)) : play s (a ++ b) = play (play s a) b := by simp [play, List.foldl_append]

theorem play_data : ∀ (l : List (Wr T)) (s : St T),
    play s (l.map fun w => .data w.1 w.2) = ⟨⟨s.da.pg, s.da.wt ++ l⟩, s.jo⟩
  | [], s => by simp [play]
  | w :: l, s => by
    show play (one s (.data w.1 w.2)) _ = _
    rw [play_data l]; simp [one, Dk.write]
theorem play_jour : ∀ (l : List (Wr T)) (s : St T),
    play s (l.map fun w => .jour w.1 w.2) = ⟨s.da, ⟨s.jo.pg, s.jo.wt ++ l⟩⟩
  | [], s => by simp [play]
  | w :: l, s => by
    show play (one s (.jour w.1 w.2)) _ = _
    rw [play_jour l]; simp [one, Dk.write]

/-- how a journal's pages are written -/
structure Code (T : Type) where
  hot : T → Bool
  head : Nat → T
  count : T → Nat
  enc : Nat → T → T
  dec : T → Wr T
  dash : T
  /-- of their form -/
  okh : T → Prop
  oke : T → Prop
  hot_head : ∀ n, hot (head n) = true
  hot_dash : hot dash = false
variable (c : Code T)
def ends : List (Op T) := [.syncD, .jour 0 c.dash, .syncJ]
def saved (o : Pg T) : Nat → List (Wr T) → List (Wr T)
  | _, [] => []
  | i, w :: l => (i, c.enc w.1 (o w.1)) :: saved o (i + 1) l
def steps (s : St T) (l : List (Wr T)) : List (Op T) :=
  (saved c s.da.pg 1 l).map (fun w => .jour w.1 w.2) ++
    ([.syncJ, .jour 0 (c.head l.length), .syncJ] ++ ((l.map fun w => .data w.1 w.2) ++ ends c))
/-- what a hot journal says is to be written -/
def says (j : Pg T) : List (Wr T) := (List.range (c.count (j 0))).map fun i => c.dec (j (i + 1))
def undo (s : St T) : List (Op T) :=
  if c.hot (s.jo.pg 0) then ((says c s.jo.pg).map fun w => .data w.1 w.2) ++ ends c else []
def recover (s : St T) : St T := play s (undo c s)
def crash (s : St T) (a b : Nat → Bool) : St T := ⟨s.da.crash a, s.jo.crash b⟩

theorem saved_length (o : Pg T) : ∀ (i : Nat) (l : List (Wr T)), (saved c o i l).length = l.length
  | _, [] => rfl
  | i, w :: l => by simp [saved, saved_length o (i + 1) l]
theorem saved_low (o : Pg T) {n : Nat} : ∀ (i : Nat) (l : List (Wr T)), n < i → n ∉ nos (saved c o i l)
  | _, [], _ => by simp [saved, nos]
  | i, w :: l, h => by
    simp only [saved, nos, List.map_cons, List.mem_cons, not_or]
    exact ⟨by omega, saved_low o (i + 1) l (by omega)⟩
theorem saved_there (o : Pg T) : ∀ (i : Nat) (l : List (Wr T)) (p : Pg T) (k : Nat) (hk : k < l.length),
    land p (saved c o i l) all (i + k) = c.enc (l[k]).1 (o (l[k]).1)
  | i, w :: l, p, 0, _ => by
    show land (upd p i _) (saved c o (i + 1) l) all i = _
    rw [land_out _ _ _ (saved_low c o (i + 1) l (by omega))]
    simp [upd]
  | i, w :: l, p, k + 1, hk => by
    show land (upd p i _) (saved c o (i + 1) l) all (i + (k + 1)) = _
    have := saved_there o (i + 1) l (upd p i (c.enc w.1 (o w.1))) k (by simpa using hk)
    rw [show i + (k + 1) = i + 1 + k by omega, this]; simp

/-- a hot journal that keeps the old pages of l -/
structure Full (o : Pg T) (l : List (Wr T)) (j : Pg T) : Prop where
  hot : c.hot (j 0) = true
  says : says c j = l.map fun w => (w.1, o w.1)
  form : c.okh (j 0) ∧ ∀ i, i < c.count (j 0) → c.oke (j (i + 1))
/-- a store at rest from which o comes back -/
def Torn (o : Pg T) (l : List (Wr T)) (s : St T) : Prop :=
  s.da.wt = [] ∧ s.jo.wt = [] ∧ Full c o l s.jo.pg ∧ ∀ n, n ∉ nos l → s.da.pg n = o n
/-- a store at rest whose journal is not hot -/
def Cold (p : Pg T) (s : St T) : Prop :=
  s.da.wt = [] ∧ s.jo.wt = [] ∧ c.hot (s.jo.pg 0) = false ∧ s.da.pg = p

theorem recover_cold {p : Pg T} {s : St T} (h : Cold c p s) : recover c s = s := by
  simp [recover, undo, h.2.2.1, play]
theorem ends_play (s : St T) (hj : s.jo.wt = []) : play s (ends c) =
    ⟨⟨land s.da.pg s.da.wt all, []⟩, ⟨upd s.jo.pg 0 c.dash, []⟩⟩ := by
  simp [ends, play, one, Dk.crash, Dk.write, hj, land, all]
theorem recover_torn {o : Pg T} {l : List (Wr T)} {s : St T} (h : Torn c o l s) : Cold c o (recover c s) := by
  obtain ⟨h1, h2, h3, h4⟩ := h
  have e : recover c s = ⟨⟨o, []⟩, ⟨upd s.jo.pg 0 c.dash, []⟩⟩ := by
    rw [recover, undo, if_pos h3.hot, play_append, play_data, ends_play _ _ (by exact h2), h1, h3.says]
    simp [land_back l o s.da.pg h4]
  rw [e]
  exact ⟨rfl, rfl, by simp [upd, c.hot_dash], rfl⟩

theorem nos_take {l : List (Wr T)} {i n : Nat} (h : n ∉ nos l) : n ∉ nos (l.take i) := fun hn => by
  simp only [nos, List.map_take] at hn h
  exact h (List.mem_of_mem_take hn)
theorem nos_old (o : Pg T) (l : List (Wr T)) : nos (l.map fun w => (w.1, o w.1)) = nos l := by
  simp [nos, List.map_map, Function.comp_def]

/-- the end of the steps and of the mending: before the first of these ops the data d wait -/
theorem ends_mid {o p : Pg T} {l d : List (Wr T)} {j : Pg T} (hf : Full c o l j)
    (hp : ∀ n, n ∉ nos l → p n = o n) (hd : ∀ n, n ∉ nos l → n ∉ nos d) (i : Nat) (a b : Nat → Bool) :
    Torn c o l (crash (play ⟨⟨p, d⟩, ⟨j, []⟩⟩ ((ends c).take i)) a b) ∨
      Cold c (land p d all) (crash (play ⟨⟨p, d⟩, ⟨j, []⟩⟩ ((ends c).take i)) a b) ∧ 2 ≤ i := by
  have out : ∀ m n, n ∉ nos l → land p d m n = o n := fun m n hn => by rw [land_out _ _ _ (hd n hn), hp n hn]
  rcases i with _ | _ | _ | i
  · exact .inl ⟨rfl, rfl, hf, out a⟩
  · exact .inl ⟨rfl, rfl, hf, out all⟩
  · by_cases hb : b 0
    · right
      refine ⟨⟨rfl, rfl, ?_, rfl⟩, by omega⟩
      simp [ends, play, one, crash, Dk.crash, Dk.write, land, hb, upd, c.hot_dash]
    · left
      refine ⟨rfl, rfl, ?_, out all⟩
      simpa [ends, play, one, crash, Dk.crash, Dk.write, land, hb] using hf
  · right
    have e : (ends c).take (i + 1 + 1 + 1) = ends c := by simp [ends]
    rw [e, ends_play _ _ rfl]
    exact ⟨⟨rfl, rfl, by simp [crash, Dk.crash, land, upd, c.hot_dash], rfl⟩, by omega⟩
theorem ends_all {p : Pg T} {d : List (Wr T)} {j : Pg T} (i : Nat) (hi : 3 ≤ i) (a b : Nat → Bool) :
    Cold c (land p d all) (crash (play ⟨⟨p, d⟩, ⟨j, []⟩⟩ ((ends c).take i)) a b) := by
  have e : (ends c).take i = ends c := List.take_of_length_le (by simp [ends]; omega)
  rw [e, ends_play _ _ rfl]
  exact ⟨rfl, rfl, by simp [crash, Dk.crash, land, upd, c.hot_dash], rfl⟩

theorem full_made {o p : Pg T} {l : List (Wr T)} (hn : c.count (c.head l.length) = l.length ∧ c.okh (c.head l.length))
    (hd : ∀ w ∈ l, c.dec (c.enc w.1 (o w.1)) = (w.1, o w.1) ∧ c.oke (c.enc w.1 (o w.1))) :
    Full c o l (upd (land p (saved c o 1 l) all) 0 (c.head l.length)) := by
  have at_ : ∀ k (hk : k < l.length), land p (saved c o 1 l) all (k + 1) = c.enc (l[k]).1 (o (l[k]).1) := fun k hk => by
    rw [Nat.add_comm]; exact saved_there c o 1 l p k hk
  refine ⟨by simp [upd, c.hot_head], ?_, ?_, ?_⟩
  · refine List.ext_getElem (by simp [says, upd, hn.1]) fun k h1 h2 => ?_
    have hk : k < l.length := by simpa using h2
    simp [says, upd, at_ k hk, (hd _ (List.getElem_mem hk)).1]
  · simpa [upd] using hn.2
  · intro i hi
    have hk : i < l.length := by simpa [upd, hn.1] using hi
    simpa [upd, at_ i hk] using (hd _ (List.getElem_mem hk)).2

/-- a crash in the midst of the steps -/
theorem steps_mid {s : St T} {l : List (Wr T)} (h1 : s.da.wt = []) (h2 : s.jo.wt = []) (h3 : c.hot (s.jo.pg 0) = false)
    (hn : c.count (c.head l.length) = l.length ∧ c.okh (c.head l.length))
    (hd : ∀ w ∈ l, c.dec (c.enc w.1 (s.da.pg w.1)) = (w.1, s.da.pg w.1) ∧ c.oke (c.enc w.1 (s.da.pg w.1))) (k : Nat) (a b : Nat → Bool) :
    Cold c s.da.pg (crash (play s ((steps c s l).take k)) a b) ∧ k < (steps c s l).length ∨
    Torn c s.da.pg l (crash (play s ((steps c s l).take k)) a b) ∧ k < (steps c s l).length ∨
    Cold c (land s.da.pg l all) (crash (play s ((steps c s l).take k)) a b) ∧ l.length + 2 < k := by
  obtain ⟨⟨o, dw⟩, ⟨jp, jw⟩⟩ := s
  simp only at h1 h2 h3 hd
  subst h1; subst h2
  have hlen : (steps c ⟨⟨o, []⟩, ⟨jp, []⟩⟩ l).length = 2 * l.length + 6 := by
    simp [steps, saved_length, ends]; omega
  rw [hlen]
  have cold0 : ∀ (x : List (Wr T)) m, (∀ n, n ∉ nos (saved c o 1 l) → n ∉ nos x) → c.hot (land jp x m 0) = false := fun x m hx => by
    rw [land_out _ _ _ (hx 0 (saved_low c o 1 l (by omega)))]; exact h3
  show _ ∨ _ ∨ _
  rw [steps, List.take_append, List.length_map, saved_length, play_append, ← List.map_take, play_jour]
  by_cases hk : k ≤ l.length
  · refine .inl ⟨?_, by omega⟩
    rw [Nat.sub_eq_zero_of_le hk]
    exact ⟨rfl, rfl, cold0 _ _ fun n hn => nos_take hn, rfl⟩
  rw [List.take_of_length_le (by rw [saved_length]; omega)]
  simp only [List.nil_append]
  obtain ⟨i, rfl⟩ : ∃ i, k = l.length + (i + 1) := ⟨k - l.length - 1, by omega⟩
  rw [Nat.add_sub_cancel_left]
  rcases i with _ | _ | i
  · exact .inl ⟨⟨rfl, rfl, cold0 _ _ fun n hn => hn, rfl⟩, by omega⟩
  · by_cases hb : b 0
    · refine .inr (.inl ⟨⟨rfl, rfl, ?_, fun n hn => rfl⟩, by omega⟩)
      simpa [play, one, crash, Dk.crash, Dk.write, land, hb] using full_made c (p := jp) hn hd
    · refine .inl ⟨⟨rfl, rfl, ?_, rfl⟩, by omega⟩
      simpa [play, one, crash, Dk.crash, Dk.write, land, hb] using cold0 _ all fun n hn => hn
  · have e : play ⟨⟨o, []⟩, ⟨jp, saved c o 1 l⟩⟩ (List.take (i + 1 + 1 + 1) ([Op.syncJ, Op.jour 0 (c.head l.length), Op.syncJ] ++ (l.map (fun w => Op.data w.1 w.2) ++ ends c))) =
        play ⟨⟨o, l.take i⟩, ⟨upd (land jp (saved c o 1 l) all) 0 (c.head l.length), []⟩⟩ ((ends c).take (i - l.length)) := by
      rw [List.take_append, play_append, List.take_of_length_le (by simp)]
      rw [show i + 1 + 1 + 1 - [Op.syncJ, Op.jour 0 (c.head l.length), Op.syncJ].length = i by simp]
      rw [List.take_append, play_append, List.length_map, ← List.map_take, play_data]
      simp [play, one, Dk.crash, Dk.write, land, all]
    rw [e]
    have hf := full_made c (p := jp) hn hd
    by_cases hi : i - l.length < 3
    · rcases ends_mid c hf (p := o) (d := l.take i) (fun n hn => rfl) (fun n hn => nos_take hn) (i - l.length) a b with h | ⟨h, h'⟩
      · exact .inr (.inl ⟨h, by omega⟩)
      · rw [List.take_of_length_le (by omega)] at h ⊢
        exact .inr (.inr ⟨h, by omega⟩)
    · have h := ends_all c (p := o) (d := l.take i) (j := upd (land jp (saved c o 1 l) all) 0 (c.head l.length)) (i - l.length) (by omega) a b
      rw [List.take_of_length_le (l := l) (by omega)] at h ⊢
      exact .inr (.inr ⟨h, by omega⟩)

/-- all or nothing -/
theorem whole {s : St T} {l : List (Wr T)} (h1 : s.da.wt = []) (h2 : s.jo.wt = []) (h3 : c.hot (s.jo.pg 0) = false)
    (hn : c.count (c.head l.length) = l.length ∧ c.okh (c.head l.length))
    (hd : ∀ w ∈ l, c.dec (c.enc w.1 (s.da.pg w.1)) = (w.1, s.da.pg w.1) ∧ c.oke (c.enc w.1 (s.da.pg w.1))) (k : Nat) (a b : Nat → Bool) :
    Cold c s.da.pg (recover c (crash (play s ((steps c s l).take k)) a b)) ∧ k < (steps c s l).length ∨
    Cold c (land s.da.pg l all) (recover c (crash (play s ((steps c s l).take k)) a b)) ∧ l.length + 2 < k := by
  rcases steps_mid c h1 h2 h3 hn hd k a b with h | h | h
  · exact .inl ⟨by rw [recover_cold c h.1]; exact h.1, h.2⟩
  · exact .inl ⟨recover_torn c h.1, h.2⟩
  · exact .inr ⟨by rw [recover_cold c h.1]; exact h.1, h.2⟩

/-- a crash of what is at rest changes nothing -/
theorem crash_rest {s : St T} (h1 : s.da.wt = []) (h2 : s.jo.wt = []) (a b : Nat → Bool) : crash s a b = s := by
  obtain ⟨⟨o, dw⟩, ⟨jp, jw⟩⟩ := s
  simp only at h1 h2
  subst h1; subst h2; rfl

/-- a crash in the midst of the mending -/
theorem undo_mid {o : Pg T} {l : List (Wr T)} {s : St T} (h : Torn c o l s) (j : Nat) (a b : Nat → Bool) :
    Torn c o l (crash (play s ((undo c s).take j)) a b) ∨ Cold c o (crash (play s ((undo c s).take j)) a b) := by
  obtain ⟨⟨p, dw⟩, ⟨jp, jw⟩⟩ := s
  obtain ⟨h1, h2, h3, h4⟩ := h
  simp only at h1 h2 h3 h4
  subst h1; subst h2
  rw [undo, if_pos h3.hot, List.take_append, play_append, ← List.map_take, play_data, List.length_map]
  simp only [List.nil_append, h3.says]
  have out : ∀ n, n ∉ nos l → n ∉ nos ((l.map fun w => (w.1, o w.1)).take j) := fun n hn =>
    nos_take (by rw [nos_old]; exact hn)
  rcases ends_mid c h3 (p := p) (d := (l.map fun w => (w.1, o w.1)).take j) h4 out (j - l.length) a b with h | ⟨h, h'⟩
  · left; simpa using h
  · right
    have e : (l.map fun w => (w.1, o w.1)).take j = l.map fun w => (w.1, o w.1) := List.take_of_length_le (by simp; omega)
    rw [e] at h ⊢
    rw [land_back l o p h4] at h
    simpa using h

/-- once more: what it would have been -/
theorem twice {s : St T} {l : List (Wr T)} (h1 : s.da.wt = []) (h2 : s.jo.wt = []) (h3 : c.hot (s.jo.pg 0) = false)
    (hn : c.count (c.head l.length) = l.length ∧ c.okh (c.head l.length))
    (hd : ∀ w ∈ l, c.dec (c.enc w.1 (s.da.pg w.1)) = (w.1, s.da.pg w.1) ∧ c.oke (c.enc w.1 (s.da.pg w.1))) (k j : Nat) (a b a' b' : Nat → Bool)
    (u : St T) (hu : u = crash (play s ((steps c s l).take k)) a b) :
    ∃ p, Cold c p (recover c u) ∧ Cold c p (recover c (crash (play u ((undo c u).take j)) a' b')) := by
  have cold : ∀ {p}, Cold c p u → ∃ p, Cold c p (recover c u) ∧ Cold c p (recover c (crash (play u ((undo c u).take j)) a' b')) := fun {p} h => by
    have e : undo c u = [] := by simp [undo, h.2.2.1]
    rw [e]
    have e2 : crash (play u (([] : List (Op T)).take j)) a' b' = u := by
      simpa [play] using crash_rest h.1 h.2.1 a' b'
    rw [e2, recover_cold c h]
    exact ⟨p, h, h⟩
  rcases steps_mid c h1 h2 h3 hn hd k a b with h | h | h
  · rw [← hu] at h; exact cold h.1
  · rw [← hu] at h
    refine ⟨s.da.pg, recover_torn c h.1, ?_⟩
    rcases undo_mid c h.1 j a' b' with g | g
    · exact recover_torn c g
    · rw [recover_cold c g]; exact g
  · rw [← hu] at h; exact cold h.1
end JN
end Go.Proofs.Ytcgafodaohmcmaa
