/- Plain facts on places: ways along distances, the shortest one, cities, violations. -/
import Derived.Test.YtkcdifanhdakhaaDoorZonP
namespace Go.Proofs.YtkcdifanhdakhaaDoor
set_option linter.unusedSimpArgs false
set_option linter.unusedVariables false

/-- a distance -/
structure Dst where
  f : ByteArray
  t : ByteArray
  m : Int
def useB (d : Dst) : Bool := decide (1 ≤ d.m) && decide (d.m ≤ 20000)
abbrev Edg := ByteArray × ByteArray × Nat
def edg (d : Dst) : List Edg := if useB d then [(d.f, d.t, d.m.toNat), (d.t, d.f, d.m.toNat)] else []
/-- all usable distances, each in both directions -/
def edgs (l : List Dst) : List Edg := l.flatMap edg
theorem useB_iff (d : Dst) : useB d = true ↔ 1 ≤ d.m ∧ d.m ≤ 20000 := by simp [useB]
theorem edgs_snoc (l : List Dst) (d : Dst) : edgs (l ++ [d]) = edgs l ++ edg d := by simp [edgs]
theorem edg_len (d : Dst) : (edg d).length ≤ 2 := by unfold edg; split <;> simp
theorem edgs_len : ∀ l : List Dst, (edgs l).length ≤ 2 * l.length
  | [] => by simp [edgs]
  | d :: r => by
    have := edgs_len r
    have h := edg_len d
    simp only [edgs, List.flatMap_cons, List.length_append, List.length_cons] at this ⊢
    omega
theorem edgs_le {l : List Dst} {b c : ByteArray} {w : Nat} (h : (b, c, w) ∈ edgs l) : w ≤ 20000 := by
  simp only [edgs, List.mem_flatMap] at h
  obtain ⟨d, _, hd⟩ := h
  unfold edg at hd
  split at hd
  · rename_i hu
    have := (useB_iff d).1 hu
    simp at hd
    rcases hd with ⟨_, _, rfl⟩ | ⟨_, _, rfl⟩ <;> omega
  · simp at hd
theorem edgs_sym {l : List Dst} {b c : ByteArray} {w : Nat} (h : (b, c, w) ∈ edgs l) : (c, b, w) ∈ edgs l := by
  simp only [edgs, List.mem_flatMap] at h ⊢
  obtain ⟨d, hm, hd⟩ := h
  refine ⟨d, hm, ?_⟩
  unfold edg at hd ⊢
  split at hd
  · rename_i hu
    rw [if_pos hu]
    simp at hd ⊢
    rcases hd with ⟨rfl, rfl, rfl⟩ | ⟨rfl, rfl, rfl⟩
    · exact .inr ⟨rfl, rfl, rfl⟩
    · exact .inl ⟨rfl, rfl, rfl⟩
  · simp at hd

/-- there is a way of this length -/
inductive Wy (E : List Edg) (a : ByteArray) : ByteArray → Nat → Prop
  | here : Wy E a a 0
  | on {b c : ByteArray} {n w : Nat} : Wy E a b n → (b, c, w) ∈ E → Wy E a c (n + w)
/-- the shortest way has this length -/
def Dis (E : List Edg) (a b : ByteArray) (n : Nat) : Prop := Wy E a b n ∧ ∀ m, Wy E a b m → n ≤ m
theorem Wy.trans {E : List Edg} {a b c : ByteArray} {n m : Nat} (h : Wy E a b n) (h' : Wy E b c m) : Wy E a c (n + m) := by
  induction h' with
  | here => exact h
  | on _ he ih => rw [← Nat.add_assoc]; exact .on ih he
theorem Wy.sym {l : List Dst} {a b : ByteArray} {n : Nat} (h : Wy (edgs l) a b n) : Wy (edgs l) b a n := by
  induction h with
  | here => exact .here
  | on h he ih => have := (Wy.here.on (edgs_sym he)).trans ih; rw [Nat.zero_add] at this; rw [Nat.add_comm]; exact this
theorem Dis.uniq {E : List Edg} {a b : ByteArray} {n m : Nat} (h : Dis E a b n) (h' : Dis E a b m) : n = m := Nat.le_antisymm (h.2 _ h'.1) (h'.2 _ h.1)
theorem dis_of_wy {E : List Edg} {a b : ByteArray} : ∀ (k n : Nat), n ≤ k → Wy E a b n → ∃ m, Dis E a b m
  | 0, n, hk, h => ⟨n, h, fun m _ => by omega⟩
  | k + 1, n, hk, h => by
    by_cases hm : ∃ m, m < n ∧ Wy E a b m
    · obtain ⟨m, h1, h2⟩ := hm
      exact dis_of_wy k m (by omega) h2
    · exact ⟨n, h, fun m h2 => Nat.le_of_not_lt fun h1 => hm ⟨m, h1, h2⟩⟩
open Classical in
/-- the length of the shortest way, if there is a way -/
noncomputable def disO (E : List Edg) (a b : ByteArray) : Option Nat := if h : ∃ n, Dis E a b n then some h.choose else none
theorem disO_some {E : List Edg} {a b : ByteArray} {n : Nat} (h : Dis E a b n) : disO E a b = some n := by
  have hx : ∃ n, Dis E a b n := ⟨n, h⟩
  unfold disO
  rw [dif_pos hx]
  exact congrArg some (hx.choose_spec.uniq h)
theorem disO_none {E : List Edg} {a b : ByteArray} (h : ∀ n, ¬ Wy E a b n) : disO E a b = none := by
  unfold disO
  rw [dif_neg (fun ⟨n, hn⟩ => h n hn.1)]
theorem disO_is {E : List Edg} {a b : ByteArray} {n : Nat} (h : disO E a b = some n) : Dis E a b n := by
  unfold disO at h
  split at h
  · rename_i hx
    cases h
    exact hx.choose_spec
  · cases h
theorem disO_no {E : List Edg} {a b : ByteArray} (h : disO E a b = none) (n : Nat) : ¬ Wy E a b n := by
  intro hn
  obtain ⟨m, hm⟩ := dis_of_wy n n (Nat.le_refl _) hn
  rw [disO_some hm] at h
  cases h
theorem disO_self (E : List Edg) (a : ByteArray) : disO E a a = some 0 := disO_some ⟨.here, fun m _ => Nat.zero_le _⟩
theorem disO_sym (l : List Dst) (a b : ByteArray) : disO (edgs l) a b = disO (edgs l) b a := by
  cases h : disO (edgs l) a b with
  | none => exact (disO_none fun n hn => disO_no h n hn.sym).symm
  | some n =>
    have hd := disO_is h
    exact (disO_some ⟨hd.1.sym, fun m hm => hd.2 m hm.sym⟩).symm
theorem disO_tri {E : List Edg} {a b c : ByteArray} {n m : Nat} (h : disO E a b = some n) (h' : disO E b c = some m) : ∃ k, disO E a c = some k ∧ k ≤ n + m := by
  have h1 := (disO_is h).1.trans (disO_is h').1
  obtain ⟨k, hk⟩ := dis_of_wy _ _ (Nat.le_refl _) h1
  exact ⟨k, disO_some hk, hk.2 _ h1⟩

/-! ### the search by the nearest city first -/
abbrev Stp := ByteArray × Nat
/-- what a city's distances lead to -/
def adj (E : List Edg) (c : ByteArray) : List Stp := (E.filter fun e => decide (e.1 = c)).map (·.2)
theorem adj_mem {E : List Edg} {b c : ByteArray} {w : Nat} : (c, w) ∈ adj E b ↔ (b, c, w) ∈ E := by
  simp only [adj, List.mem_map, List.mem_filter, decide_eq_true_eq]
  constructor
  · rintro ⟨⟨x, y, z⟩, ⟨h, rfl⟩, he⟩
    cases he
    exact h
  · intro h
    exact ⟨(b, c, w), ⟨h, rfl⟩, rfl⟩
theorem adj_app (E F : List Edg) (c : ByteArray) : adj (E ++ F) c = adj E c ++ adj F c := by simp [adj]
theorem adj_one (a b c : ByteArray) (w : Nat) : adj [(a, b, w)] c = if a = c then [(b, w)] else [] := by
  by_cases h : a = c <;> simp [adj, h]
/-- R: the cities that were reached; q: what is still to be looked at -/
structure Dij (E : List Edg) (a to : ByteArray) (R : ByteArray → Prop) (q : List Stp) : Prop where
  way : ∀ c m, (c, m) ∈ q → Wy E a c m
  at' : ∀ c, R c → ∃ m, Dis E a c m
  on : ∀ b, R b → ∀ n, Dis E a b n → ∀ c w, (b, c, w) ∈ E → (∃ m, m ≤ n + w ∧ (c, m) ∈ q) ∨ (R c ∧ ∃ m, Dis E a c m ∧ m ≤ n + w)
  start : R a ∨ (a, 0) ∈ q
  to' : ¬ R to
theorem Dij.init (E : List Edg) (a to : ByteArray) : Dij E a to (fun _ => False) [(a, 0)] where
  way c m h := by simp at h; obtain ⟨rfl, rfl⟩ := h; exact .here
  at' c h := h.elim
  on b h := h.elim
  start := .inr (by simp)
  to' h := h
theorem Dij.far {E : List Edg} {a to : ByteArray} {R : ByteArray → Prop} {q : List Stp} (I : Dij E a to R q) {c : ByteArray} {n : Nat} (h : Wy E a c n) : (R c ∧ ∃ m, Dis E a c m ∧ m ≤ n) ∨ ∃ y k, (y, k) ∈ q ∧ k ≤ n := by
  induction h with
  | here =>
    rcases I.start with h | h
    · exact .inl ⟨h, 0, ⟨.here, fun m _ => Nat.zero_le _⟩, Nat.le_refl _⟩
    · exact .inr ⟨_, _, h, Nat.le_refl _⟩
  | @on b c n w hb he ih =>
    rcases ih with ⟨hr, m, hd, hm⟩ | ⟨y, k, hy, hk⟩
    · rcases I.on b hr m hd c w he with ⟨k, hk, hq⟩ | ⟨hc, k, hd', hk⟩
      · exact .inr ⟨c, k, hq, by omega⟩
      · exact .inl ⟨hc, k, hd', by omega⟩
    · exact .inr ⟨y, k, hy, by omega⟩
theorem Dij.none {E : List Edg} {a to : ByteArray} {R : ByteArray → Prop} (I : Dij E a to R []) : disO E a to = none :=
  disO_none fun n hn => by
    rcases I.far hn with ⟨h, _⟩ | ⟨y, k, h, _⟩
    · exact I.to' h
    · simp at h
theorem Dij.near {E : List Edg} {a to : ByteArray} {R : ByteArray → Prop} {q q' : List Stp} {c : ByteArray} {m : Nat} (I : Dij E a to R q) (hp : q.Perm ((c, m) :: q')) (hmin : ∀ x ∈ q, m ≤ x.2) (hc : ¬ R c) : Dis E a c m := by
  refine ⟨I.way c m (hp.mem_iff.2 (by simp)), fun n hn => ?_⟩
  rcases I.far hn with ⟨h, _⟩ | ⟨y, k, h, hk⟩
  · exact absurd h hc
  · exact Nat.le_trans (hmin _ h) hk
theorem Dij.found {E : List Edg} {a to : ByteArray} {R : ByteArray → Prop} {q q' : List Stp} {m : Nat} (I : Dij E a to R q) (hp : q.Perm ((to, m) :: q')) (hmin : ∀ x ∈ q, m ≤ x.2) : disO E a to = some m :=
  disO_some (I.near hp hmin I.to')
theorem Dij.skip {E : List Edg} {a to : ByteArray} {R : ByteArray → Prop} {q q' : List Stp} {c : ByteArray} {m : Nat} (I : Dij E a to R q) (hp : q.Perm ((c, m) :: q')) (hc : R c) : Dij E a to R q' := by
  obtain ⟨d, hd⟩ := I.at' c hc
  have hw := I.way c m (hp.mem_iff.2 (by simp))
  have hle := hd.2 m hw
  refine ⟨fun x n h => I.way x n (hp.mem_iff.2 (by simp [h])), I.at', fun b hb n hn x w he => ?_, ?_, I.to'⟩
  · rcases I.on b hb n hn x w he with ⟨k, hk, hq⟩ | h
    · rcases List.mem_cons.1 (hp.mem_iff.1 hq) with e | h
      · cases e
        exact .inr ⟨hc, d, hd, by omega⟩
      · exact .inl ⟨k, hk, h⟩
    · exact .inr h
  · rcases I.start with h | h
    · exact .inl h
    · rcases List.mem_cons.1 (hp.mem_iff.1 h) with e | h
      · cases e
        exact .inl hc
      · exact .inr h
/-- a city is reached: its distances are looked at -/
theorem Dij.grow {E : List Edg} {a to : ByteArray} {R : ByteArray → Prop} {q q' q'' : List Stp} {c : ByteArray} {m : Nat} (I : Dij E a to R q) (hp : q.Perm ((c, m) :: q')) (hmin : ∀ x ∈ q, m ≤ x.2) (hc : ¬ R c) (ht : c ≠ to)
    (hq : q''.Perm (q' ++ (adj E c).map fun x => (x.1, m + x.2))) : Dij E a to (fun x => R x ∨ x = c) q'' := by
  have hd := I.near hp hmin hc
  have new : ∀ x w, (c, x, w) ∈ E → (x, m + w) ∈ q'' := fun x w h => hq.mem_iff.2 (List.mem_append.2 (.inr (List.mem_map.2 ⟨(x, w), adj_mem.2 h, rfl⟩)))
  have old : ∀ x, x ∈ q' → x ∈ q'' := fun x h => hq.mem_iff.2 (List.mem_append.2 (.inl h))
  refine ⟨fun x n h => ?_, fun x h => ?_, fun b hb n hn x w he => ?_, ?_, fun h => h.elim I.to' fun e => ht e.symm⟩
  · rcases List.mem_append.1 (hq.mem_iff.1 h) with h | h
    · exact I.way x n (hp.mem_iff.2 (by simp [h]))
    · obtain ⟨⟨y, w⟩, hy, e⟩ := List.mem_map.1 h
      cases e
      exact hd.1.on (adj_mem.1 hy)
  · rcases h with h | rfl
    · exact I.at' x h
    · exact ⟨m, hd⟩
  · rcases hb with hb | rfl
    · rcases I.on b hb n hn x w he with ⟨k, hk, h⟩ | ⟨h1, h2⟩
      · rcases List.mem_cons.1 (hp.mem_iff.1 h) with e | h
        · cases e
          exact .inr ⟨.inr rfl, m, hd, hk⟩
        · exact .inl ⟨k, hk, old _ h⟩
      · exact .inr ⟨.inl h1, h2⟩
    · obtain rfl := hd.uniq hn
      exact .inl ⟨m + w, Nat.le_refl _, new x w he⟩
  · rcases I.start with h | h
    · exact .inl (.inl h)
    · rcases List.mem_cons.1 (hp.mem_iff.1 h) with e | h
      · cases e
        exact .inl (.inr rfl)
      · exact .inr (old _ h)
/-- how many directions lead away from cities that were not reached -/
def rem (E : List Edg) (R : ByteArray → Bool) : Nat := (E.filter fun e => !R e.1).length
theorem rem_grow (E : List Edg) (R R' : ByteArray → Bool) (c : ByteArray) (hc : R c = false) (hR : ∀ x, R' x = (R x || decide (x = c))) : rem E R' + (adj E c).length = rem E R := by
  induction E with
  | nil => rfl
  | cons e r ih =>
    have h2 := hR e.1
    simp only [rem, adj, List.length_map] at ih ⊢
    by_cases h1 : e.1 = c
    · have h3 : R' e.1 = true := by rw [h2]; simp [h1]
      have h4 : R e.1 = false := by rw [h1]; exact hc
      have hd : decide (e.1 = c) = true := by simp [h1]
      simp only [List.filter_cons, h3, h4, hd, Bool.not_true, Bool.not_false, if_true, Bool.false_eq_true, if_false, List.length_cons]
      omega
    · have h3 : R' e.1 = R e.1 := by rw [h2]; simp [h1]
      have hd : decide (e.1 = c) = false := by simp [h1]
      cases h4 : R e.1 <;> simp only [List.filter_cons, h3, h4, hd, Bool.not_true, Bool.not_false, if_true, Bool.false_eq_true, if_false, List.length_cons] <;> omega
theorem rem_le (E : List Edg) (R : ByteArray → Bool) : rem E R ≤ E.length := List.length_filter_le _ _
theorem rem_none (E : List Edg) : rem E (fun _ => false) = E.length := by simp [rem]

/-! ### the reference's search: distances are followed until nothing becomes shorter -/
/-- l: the cities that were reached, with a way's length -/
structure Rel (E : List Edg) (a : ByteArray) (l : List Stp) : Prop where
  way : ∀ c m, (c, m) ∈ l → Wy E a c m
  start : (a, 0) ∈ l
  one : l.Pairwise fun x y => x.1 ≠ y.1
def atL (l : List Stp) (c : ByteArray) : Option Nat := (l.find? fun x => decide (x.1 = c)).map (·.2)
theorem atL_mem {l : List Stp} (h1 : l.Pairwise fun x y => x.1 ≠ y.1) {c : ByteArray} {m : Nat} : atL l c = some m ↔ (c, m) ∈ l := by
  induction l with
  | nil => simp [atL]
  | cons x r ih =>
    obtain ⟨h2, h3⟩ := List.pairwise_cons.1 h1
    obtain ⟨xc, xm⟩ := x
    by_cases h : xc = c
    · subst h
      have : ∀ m', (xc, m') ∉ r := fun m' hm => h2 _ hm rfl
      simp [atL, this]
      exact eq_comm
    · have h' : ¬ c = xc := fun e => h e.symm
      simp only [atL, List.find?_cons, h, decide_false, List.mem_cons, Prod.mk.injEq, h', false_and, false_or]
      exact ih h3
theorem atL_none {l : List Stp} {c : ByteArray} : atL l c = none ↔ ∀ m, (c, m) ∉ l := by
  simp only [atL, Option.map_eq_none_iff, List.find?_eq_none, decide_eq_true_eq]
  exact ⟨fun h m hm => h _ hm rfl, fun h x hx e => h x.2 (by rw [← e]; exact hx)⟩
/-- nothing becomes shorter: these are the shortest ways -/
theorem Rel.done {E : List Edg} {a : ByteArray} {l : List Stp} (I : Rel E a l) (h : ∀ b c w n, (b, c, w) ∈ E → (b, n) ∈ l → ∃ m, (c, m) ∈ l ∧ m ≤ n + w) (to : ByteArray) : disO E a to = atL l to := by
  have all : ∀ c n, Wy E a c n → ∃ m, (c, m) ∈ l ∧ m ≤ n := by
    intro c n hw
    induction hw with
    | here =>
      exact ⟨0, I.start, Nat.le_refl _⟩
    | @on b c n w hb he ih =>
      obtain ⟨m, hm, hle⟩ := ih
      obtain ⟨k, hk, hle'⟩ := h b c w m he hm
      exact ⟨k, hk, by omega⟩
  cases hl : atL l to with
  | none =>
    refine disO_none fun n hn => ?_
    obtain ⟨m, hm, _⟩ := all to n hn
    exact atL_none.1 hl m hm
  | some m =>
    have hm := (atL_mem I.one).1 hl
    refine disO_some ⟨I.way _ _ hm, fun n hn => ?_⟩
    obtain ⟨k, hk, hle⟩ := all to n hn
    have := (atL_mem I.one).2 hk
    rw [hl] at this
    cases this
    exact hle

/-- a way to a city is noted, if it is new or shorter -/
def putL : List Stp → ByteArray → Nat → List Stp
  | [], c, m => [(c, m)]
  | x :: r, c, m => if x.1 = c then (if x.2 ≤ m then x :: r else (c, m) :: r) else x :: putL r c m
def newL : List Stp → ByteArray → Nat → Bool
  | [], _, _ => true
  | x :: r, c, m => if x.1 = c then decide (m < x.2) else newL r c m
theorem putL_same : ∀ (l : List Stp) (c : ByteArray) (m : Nat), newL l c m = false → putL l c m = l
  | [], c, m, h => by simp [newL] at h
  | x :: r, c, m, h => by
    by_cases e : x.1 = c
    · simp [newL, e] at h
      simp [putL, e, h]
    · simp [newL, e] at h
      simp [putL, e, putL_same r c m h]
theorem putL_has : ∀ (l : List Stp) (c : ByteArray) (m : Nat), newL l c m = false → ∃ k, (c, k) ∈ l ∧ k ≤ m
  | [], c, m, h => by simp [newL] at h
  | x :: r, c, m, h => by
    by_cases e : x.1 = c
    · simp [newL, e] at h
      exact ⟨x.2, by rw [← e]; simp, h⟩
    · simp [newL, e] at h
      obtain ⟨k, h1, h2⟩ := putL_has r c m h
      exact ⟨k, by simp [h1], h2⟩
theorem putL_mem : ∀ (l : List Stp) (c : ByteArray) (m : Nat) (x : Stp), x ∈ putL l c m → x ∈ l ∨ x = (c, m)
  | [], c, m, x, h => by simp [putL] at h; exact .inr h
  | y :: r, c, m, x, h => by
    by_cases e : y.1 = c
    · by_cases hm : y.2 ≤ m
      · simp only [putL, e, if_true, hm] at h
        exact .inl h
      · simp only [putL, e, if_true, hm, if_false] at h
        rcases List.mem_cons.1 h with h | h
        · exact .inr h
        · exact .inl (by simp [h])
    · simp only [putL, e, if_false] at h
      rcases List.mem_cons.1 h with h | h
      · exact .inl (by simp [h])
      · rcases putL_mem r c m x h with h | h
        · exact .inl (by simp [h])
        · exact .inr h
theorem putL_keep : ∀ (l : List Stp) (c : ByteArray) (m : Nat) (x : Stp), x ∈ l → x.1 ≠ c ∨ x.2 ≤ m → x ∈ putL l c m
  | [], c, m, x, h, _ => by simp at h
  | y :: r, c, m, x, h, hx => by
    by_cases e : y.1 = c
    · by_cases hm : y.2 ≤ m
      · simp only [putL, e, if_true, hm]
        exact h
      · simp only [putL, e, if_true, hm, if_false]
        rcases List.mem_cons.1 h with rfl | h
        · rcases hx with hx | hx
          · exact absurd e hx
          · exact absurd hx hm
        · simp [h]
    · simp only [putL, e, if_false]
      rcases List.mem_cons.1 h with rfl | h
      · simp
      · simp [putL_keep r c m x h hx]
theorem putL_one : ∀ (l : List Stp) (c : ByteArray) (m : Nat), l.Pairwise (fun x y => x.1 ≠ y.1) → (putL l c m).Pairwise fun x y => x.1 ≠ y.1
  | [], c, m, h => by simp [putL]
  | x :: r, c, m, h => by
    obtain ⟨h1, h2⟩ := List.pairwise_cons.1 h
    by_cases e : x.1 = c
    · by_cases hm : x.2 ≤ m
      · simp only [putL, e, if_true, hm]
        exact h
      · simp only [putL, e, if_true, hm, if_false]
        exact List.pairwise_cons.2 ⟨fun y hy => by rw [← e]; exact h1 y hy, h2⟩
    · simp only [putL, e, if_false]
      refine List.pairwise_cons.2 ⟨fun y hy => ?_, putL_one r c m h2⟩
      rcases putL_mem r c m y hy with h | rfl
      · exact h1 y h
      · exact e
def sumL (l : List Stp) : Nat := (l.map (·.2)).sum
theorem putL_meas : ∀ (l : List Stp) (c : ByteArray) (m : Nat), newL l c m = true → ((putL l c m).length = l.length ∧ sumL (putL l c m) < sumL l ∧ ∃ k, (c, k) ∈ l ∧ m < k) ∨ ((putL l c m).length = l.length + 1 ∧ sumL (putL l c m) = sumL l + m)
  | [], c, m, h => by right; simp [putL, sumL]
  | x :: r, c, m, h => by
    by_cases e : x.1 = c
    · simp [newL, e] at h
      left
      refine ⟨?_, ?_, x.2, by rw [← e]; simp, h⟩
      · simp only [putL, e, if_true, if_neg (show ¬ x.2 ≤ m by omega), List.length_cons]
      · simp only [putL, e, if_true, if_neg (show ¬ x.2 ≤ m by omega), sumL, List.map_cons, List.sum_cons]
        omega
    · simp [newL, e] at h
      rcases putL_meas r c m h with ⟨h1, h2, k, h3, h4⟩ | ⟨h1, h2⟩
      · left
        refine ⟨?_, ?_, k, by simp [h3], h4⟩
        · simp only [putL, e, if_false, List.length_cons, h1]
        · simp only [putL, e, if_false, sumL, List.map_cons, List.sum_cons] at h2 ⊢
          omega
      · right
        simp only [putL, e, if_false, List.length_cons, sumL, List.map_cons, List.sum_cons] at h1 h2 ⊢
        omega
theorem Rel.put {E : List Edg} {a : ByteArray} {l : List Stp} (I : Rel E a l) {b c : ByteArray} {n w : Nat} (hb : (b, n) ∈ l) (he : (b, c, w) ∈ E) : Rel E a (putL l c (n + w)) where
  way x m h := by
    rcases putL_mem l c _ _ h with h | e
    · exact I.way x m h
    · cases e
      exact (I.way b n hb).on he
  start := putL_keep l c _ _ I.start (.inr (Nat.zero_le _))
  one := putL_one l c _ I.one
/-- distinct cities of a list that has them all -/
theorem nodup_le {α : Type} [DecidableEq α] : ∀ (l m : List α), l.Nodup → (∀ x ∈ l, x ∈ m) → l.length ≤ m.length
  | [], m, _, _ => by simp
  | x :: r, m, h, hs => by
    obtain ⟨h1, h2⟩ := List.nodup_cons.1 h
    have := nodup_le r (m.erase x) h2 fun y hy => (List.mem_erase_of_ne (fun e => h1 (by rw [← e]; exact hy))).2 (hs y (by simp [hy]))
    have e := List.length_erase_of_mem (hs x (by simp))
    have hp := List.length_pos_of_mem (hs x (by simp))
    simp only [List.length_cons]
    omega
theorem Wy.end' {E : List Edg} {a c : ByteArray} {n : Nat} (h : Wy E a c n) : c = a ∨ c ∈ E.map (·.2.1) := by
  cases h with
  | here => exact .inl rfl
  | on _ he => exact .inr (List.mem_map.2 ⟨_, he, rfl⟩)
theorem Rel.len {E : List Edg} {a : ByteArray} {l : List Stp} (I : Rel E a l) : l.length ≤ E.length + 1 := by
  have h := nodup_le (l.map (·.1)) (a :: E.map (·.2.1)) (List.pairwise_map.2 I.one) (fun x hx => by
    obtain ⟨⟨c, m⟩, hm, rfl⟩ := List.mem_map.1 hx
    exact List.mem_cons.2 (I.way c m hm).end')
  simpa using h
/-- the sum falls, or a city is new -/
def meas (l : List Stp) : Nat := sumL l + (1000 - l.length) * 100000000
theorem meas_put {l : List Stp} {c : ByteArray} {m : Nat} (h : newL l c m = true) (hl : l.length < 1000) (hm : m < 100000000) : meas (putL l c m) < meas l := by
  have := putL_meas l c m h
  unfold meas
  rcases this with ⟨e, h, _⟩ | ⟨e, h⟩
  · rw [e]; omega
  · rw [e, h]
    have : 1000 - l.length = (1000 - (l.length + 1)) + 1 := by omega
    rw [this, Nat.add_mul]
    omega
/-- no way that was noted is longer than this -/
def capL (l : List Stp) : Prop := ∀ c m, (c, m) ∈ l → m + 20000 ≤ 20000 * l.length
theorem capL.put {l : List Stp} (h : capL l) {b c : ByteArray} {n w : Nat} (hb : (b, n) ∈ l) (hw : w ≤ 20000) : capL (putL l c (n + w)) := by
  intro x m hx
  have hn := h b n hb
  cases hz : newL l c (n + w)
  · rw [putL_same l c _ hz] at hx ⊢
    exact h x m hx
  · rcases putL_meas l c (n + w) hz with ⟨e, _, k, hk, hlt⟩ | ⟨e, _⟩
    · rw [e]
      rcases putL_mem l c _ _ hx with h1 | h1
      · exact h x m h1
      · cases h1
        have := h c k hk
        omega
    · rw [e]
      rcases putL_mem l c _ _ hx with h1 | h1
      · have := h x m h1
        omega
      · cases h1
        omega

end Go.Proofs.YtkcdifanhdakhaaDoor
