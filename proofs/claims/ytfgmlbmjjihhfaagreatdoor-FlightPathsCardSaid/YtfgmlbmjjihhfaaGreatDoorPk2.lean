/- Words and walks that the laws below ask: PlaP, PlainB, TextA, PlaA, PlaB, PlaM, PlaQ. -/
import Derived.Lib.AtoiAll
import Derived.Lib.ItoaNum
import Derived.Test.YtfgmlbmjjihhfaaGreatDoorRows
import Derived.WalkKit
import Derived.WalkSpells
import Derived.WalkLawsBesides
import Derived.Lib.Hide
import Derived.Shelf.Abstract
import Derived.Deep.LoopGhost
import Derived.Maps.OwnSet
import Derived.Test.YtfgmlbmjjihhfaaGreatDoorPk1
/- Plain facts on places: ways along distances, the shortest one, cities, violations. -/
namespace Go.Proofs.YtfgmlbmjjihhfaaGreatDoor
set_option linter.unusedSimpArgs false
set_option linter.unusedVariables false

/-- a distance -/
structure Dst where
  f : ByteArray
  t : ByteArray
  m : Int
def useB (d : Dst) : Bool := decide (1 ≤ d.m) && decide (d.m ≤ 20000)
abbrev Edg := ByteArray × ByteArray × Nat
def edg (d : Dst) : List Edg := if useB d then [(d.f, d.t, d.m.toNat), (d.t, d.f, d.m.toNat)] else []
/-- all usable distances, each in both directions -/
def edgs (l : List Dst) : List Edg := l.flatMap edg
theorem useB_iff (d : Dst) : useB d = true ↔ 1 ≤ d.m ∧ d.m ≤ 20000 := by simp [useB]
theorem edgs_snoc (l : List Dst) (d : Dst) : edgs (l ++ [d]) = edgs l ++ edg d := by simp [edgs]
theorem edg_len (d : Dst) : (edg d).length ≤ 2 := by unfold edg; split <;> simp
theorem edgs_len : ∀ l : List Dst, (edgs l).length ≤ 2 * l.length
  | [] => by simp [edgs]
  | d :: r => by
    have := edgs_len r
    have h := edg_len d
    simp only [edgs, List.flatMap_cons, List.length_append, List.length_cons] at this ⊢
    omega
theorem edgs_le {l : List Dst} {b c : ByteArray} {w : Nat} (h : (b, c, w) ∈ edgs l) : w ≤ 20000 := by
  simp only [edgs, List.mem_flatMap] at h
  obtain ⟨d, _, hd⟩ := h
  unfold edg at hd
  split at hd
  · rename_i hu
    have := (useB_iff d).1 hu
    simp at hd
    rcases hd with ⟨_, _, rfl⟩ | ⟨_, _, rfl⟩ <;> omega
  · simp at hd
theorem edgs_sym {l : List Dst} {b c : ByteArray} {w : Nat} (h : (b, c, w) ∈ edgs l) : (c, b, w) ∈ edgs l := by
  simp only [edgs, List.mem_flatMap] at h ⊢
  obtain ⟨d, hm, hd⟩ := h
  refine ⟨d, hm, ?_⟩
  unfold edg at hd ⊢
  split at hd
  · rename_i hu
    rw [if_pos hu]
    simp at hd ⊢
    rcases hd with ⟨rfl, rfl, rfl⟩ | ⟨rfl, rfl, rfl⟩
    · exact .inr ⟨rfl, rfl, rfl⟩
    · exact .inl ⟨rfl, rfl, rfl⟩
  · simp at hd

/-- there is a way of this length -/
inductive Wy (E : List Edg) (a : ByteArray) : ByteArray → Nat → Prop
  | here : Wy E a a 0
  | on {b c : ByteArray} {n w : Nat} : Wy E a b n → (b, c, w) ∈ E → Wy E a c (n + w)
/-- the shortest way has this length -/
def Dis (E : List Edg) (a b : ByteArray) (n : Nat) : Prop := Wy E a b n ∧ ∀ m, Wy E a b m → n ≤ m
theorem Wy.trans {E : List Edg} {a b c : ByteArray} {n m : Nat} (h : Wy E a b n) (h' : Wy E b c m) : Wy E a c (n + m) := by
  induction h' with
  | here => exact h
  | on _ he ih => rw [← Nat.add_assoc]; exact .on ih he
theorem Wy.sym {l : List Dst} {a b : ByteArray} {n : Nat} (h : Wy (edgs l) a b n) : Wy (edgs l) b a n := by
  induction h with
  | here => exact .here
  | on h he ih => have := (Wy.here.on (edgs_sym he)).trans ih; rw [Nat.zero_add] at this; rw [Nat.add_comm]; exact this
theorem Dis.uniq {E : List Edg} {a b : ByteArray} {n m : Nat} (h : Dis E a b n) (h' : Dis E a b m) : n = m := Nat.le_antisymm (h.2 _ h'.1) (h'.2 _ h.1)
theorem dis_of_wy {E : List Edg} {a b : ByteArray} : ∀ (k n : Nat), n ≤ k → Wy E a b n → ∃ m, Dis E a b m
  | 0, n, hk, h => ⟨n, h, fun m _ => by omega⟩
  | k + 1, n, hk, h => by
    by_cases hm : ∃ m, m < n ∧ Wy E a b m
    · obtain ⟨m, h1, h2⟩ := hm
      exact dis_of_wy k m (by omega) h2
    · exact ⟨n, h, fun m h2 => Nat.le_of_not_lt fun h1 => hm ⟨m, h1, h2⟩⟩
open Classical in
/-- the length of the shortest way, if there is a way -/
noncomputable def disO (E : List Edg) (a b : ByteArray) : Option Nat := if h : ∃ n, Dis E a b n then some h.choose else none
theorem disO_some {E : List Edg} {a b : ByteArray} {n : Nat} (h : Dis E a b n) : disO E a b = some n := by
  have hx : ∃ n, Dis E a b n := ⟨n, h⟩
  unfold disO
  rw [dif_pos hx]
  exact congrArg some (hx.choose_spec.uniq h)
theorem disO_none {E : List Edg} {a b : ByteArray} (h : ∀ n, ¬ Wy E a b n) : disO E a b = none := by
  unfold disO
  rw [dif_neg (fun ⟨n, hn⟩ => h n hn.1)]
theorem disO_is {E : List Edg} {a b : ByteArray} {n : Nat} (h : disO E a b = some n) : Dis E a b n := by
  unfold disO at h
  split at h
  · rename_i hx
    cases h
    exact hx.choose_spec
  · cases h
theorem disO_no {E : List Edg} {a b : ByteArray} (h : disO E a b = none) (n : Nat) : ¬ Wy E a b n := by
  intro hn
  obtain ⟨m, hm⟩ := dis_of_wy n n (Nat.le_refl _) hn
  rw [disO_some hm] at h
  cases h
theorem disO_self (E : List Edg) (a : ByteArray) : disO E a a = some 0 := disO_some ⟨.here, fun m _ => Nat.zero_le _⟩
theorem disO_sym (l : List Dst) (a b : ByteArray) : disO (edgs l) a b = disO (edgs l) b a := by
  cases h : disO (edgs l) a b with
  | none => exact (disO_none fun n hn => disO_no h n hn.sym).symm
  | some n =>
    have hd := disO_is h
    exact (disO_some ⟨hd.1.sym, fun m hm => hd.2 m hm.sym⟩).symm
theorem disO_tri {E : List Edg} {a b c : ByteArray} {n m : Nat} (h : disO E a b = some n) (h' : disO E b c = some m) : ∃ k, disO E a c = some k ∧ k ≤ n + m := by
  have h1 := (disO_is h).1.trans (disO_is h').1
  obtain ⟨k, hk⟩ := dis_of_wy _ _ (Nat.le_refl _) h1
  exact ⟨k, disO_some hk, hk.2 _ h1⟩

/-! ### the search by the nearest city first -/
abbrev Stp := ByteArray × Nat
/-- what a city's distances lead to -/
def adj (E : List Edg) (c : ByteArray) : List Stp := (E.filter fun e => decide (e.1 = c)).map (·.2)
theorem adj_mem {E : List Edg} {b c : ByteArray} {w : Nat} : (c, w) ∈ adj E b ↔ (b, c, w) ∈ E := by
  simp only [adj, List.mem_map, List.mem_filter, decide_eq_true_eq]
  constructor
  · rintro ⟨⟨x, y, z⟩, ⟨h, rfl⟩, he⟩
    cases he
    exact h
  · intro h
    exact ⟨(b, c, w), ⟨h, rfl⟩, rfl⟩
theorem adj_app (E F : List Edg) (c : ByteArray) : adj (E ++ F) c = adj E c ++ adj F c := by simp [adj]
theorem adj_one (a b c : ByteArray) (w : Nat) : adj [(a, b, w)] c = if a = c then [(b, w)] else [] := by
  by_cases h : a = c <;> simp [adj, h]
/-- R: the cities that were reached; q: what is still to be looked at -/
structure Dij (E : List Edg) (a to : ByteArray) (R : ByteArray → Prop) (q : List Stp) : Prop where
  way : ∀ c m, (c, m) ∈ q → Wy E a c m
  at' : ∀ c, R c → ∃ m, Dis E a c m
  on : ∀ b, R b → ∀ n, Dis E a b n → ∀ c w, (b, c, w) ∈ E → (∃ m, m ≤ n + w ∧ (c, m) ∈ q) ∨ (R c ∧ ∃ m, Dis E a c m ∧ m ≤ n + w)
  start : R a ∨ (a, 0) ∈ q
  to' : ¬ R to
theorem Dij.init (E : List Edg) (a to : ByteArray) : Dij E a to (fun _ => False) [(a, 0)] where
  way c m h := by simp at h; obtain ⟨rfl, rfl⟩ := h; exact .here
  at' c h := h.elim
  on b h := h.elim
  start := .inr (by simp)
  to' h := h
theorem Dij.far {E : List Edg} {a to : ByteArray} {R : ByteArray → Prop} {q : List Stp} (I : Dij E a to R q) {c : ByteArray} {n : Nat} (h : Wy E a c n) : (R c ∧ ∃ m, Dis E a c m ∧ m ≤ n) ∨ ∃ y k, (y, k) ∈ q ∧ k ≤ n := by
  induction h with
  | here =>
    rcases I.start with h | h
    · exact .inl ⟨h, 0, ⟨.here, fun m _ => Nat.zero_le _⟩, Nat.le_refl _⟩
    · exact .inr ⟨_, _, h, Nat.le_refl _⟩
  | @on b c n w hb he ih =>
    rcases ih with ⟨hr, m, hd, hm⟩ | ⟨y, k, hy, hk⟩
    · rcases I.on b hr m hd c w he with ⟨k, hk, hq⟩ | ⟨hc, k, hd', hk⟩
      · exact .inr ⟨c, k, hq, by omega⟩
      · exact .inl ⟨hc, k, hd', by omega⟩
    · exact .inr ⟨y, k, hy, by omega⟩
theorem Dij.none {E : List Edg} {a to : ByteArray} {R : ByteArray → Prop} (I : Dij E a to R []) : disO E a to = none :=
  disO_none fun n hn => by
    rcases I.far hn with ⟨h, _⟩ | ⟨y, k, h, _⟩
    · exact I.to' h
    · simp at h
theorem Dij.near {E : List Edg} {a to : ByteArray} {R : ByteArray → Prop} {q q' : List Stp} {c : ByteArray} {m : Nat} (I : Dij E a to R q) (hp : q.Perm ((c, m) :: q')) (hmin : ∀ x ∈ q, m ≤ x.2) (hc : ¬ R c) : Dis E a c m := by
  refine ⟨I.way c m (hp.mem_iff.2 (by simp)), fun n hn => ?_⟩
  rcases I.far hn with ⟨h, _⟩ | ⟨y, k, h, hk⟩
  · exact absurd h hc
  · exact Nat.le_trans (hmin _ h) hk
theorem Dij.found {E : List Edg} {a to : ByteArray} {R : ByteArray → Prop} {q q' : List Stp} {m : Nat} (I : Dij E a to R q) (hp : q.Perm ((to, m) :: q')) (hmin : ∀ x ∈ q, m ≤ x.2) : disO E a to = some m :=
  disO_some (I.near hp hmin I.to')
theorem Dij.skip {E : List Edg} {a to : ByteArray} {R : ByteArray → Prop} {q q' : List Stp} {c : ByteArray} {m : Nat} (I : Dij E a to R q) (hp : q.Perm ((c, m) :: q')) (hc : R c) : Dij E a to R q' := by
  obtain ⟨d, hd⟩ := I.at' c hc
  have hw := I.way c m (hp.mem_iff.2 (by simp))
  have hle := hd.2 m hw
  refine ⟨fun x n h => I.way x n (hp.mem_iff.2 (by simp [h])), I.at', fun b hb n hn x w he => ?_, ?_, I.to'⟩
  · rcases I.on b hb n hn x w he with ⟨k, hk, hq⟩ | h
    · rcases List.mem_cons.1 (hp.mem_iff.1 hq) with e | h
      · cases e
        exact .inr ⟨hc, d, hd, by omega⟩
      · exact .inl ⟨k, hk, h⟩
    · exact .inr h
  · rcases I.start with h | h
    · exact .inl h
    · rcases List.mem_cons.1 (hp.mem_iff.1 h) with e | h
      · cases e
        exact .inl hc
      · exact .inr h
/-- a city is reached: its distances are looked at -/
theorem Dij.grow {E : List Edg} {a to : ByteArray} {R : ByteArray → Prop} {q q' q'' : List Stp} {c : ByteArray} {m : Nat} (I : Dij E a to R q) (hp : q.Perm ((c, m) :: q')) (hmin : ∀ x ∈ q, m ≤ x.2) (hc : ¬ R c) (ht : c ≠ to)
    (hq : q''.Perm (q' ++ (adj E c).map fun x => (x.1, m + x.2))) : Dij E a to (fun x => R x ∨ x = c) q'' := by
  have hd := I.near hp hmin hc
  have new : ∀ x w, (c, x, w) ∈ E → (x, m + w) ∈ q'' := fun x w h => hq.mem_iff.2 (List.mem_append.2 (.inr (List.mem_map.2 ⟨(x, w), adj_mem.2 h, rfl⟩)))
  have old : ∀ x, x ∈ q' → x ∈ q'' := fun x h => hq.mem_iff.2 (List.mem_append.2 (.inl h))
  refine ⟨fun x n h => ?_, fun x h => ?_, fun b hb n hn x w he => ?_, ?_, fun h => h.elim I.to' fun e => ht e.symm⟩
  · rcases List.mem_append.1 (hq.mem_iff.1 h) with h | h
    · exact I.way x n (hp.mem_iff.2 (by simp [h]))
    · obtain ⟨⟨y, w⟩, hy, e⟩ := List.mem_map.1 h
      cases e
      exact hd.1.on (adj_mem.1 hy)
  · rcases h with h | rfl
    · exact I.at' x h
    · exact ⟨m, hd⟩
  · rcases hb with hb | rfl
    · rcases I.on b hb n hn x w he with ⟨k, hk, h⟩ | ⟨h1, h2⟩
      · rcases List.mem_cons.1 (hp.mem_iff.1 h) with e | h
        · cases e
          exact .inr ⟨.inr rfl, m, hd, hk⟩
        · exact .inl ⟨k, hk, old _ h⟩
      · exact .inr ⟨.inl h1, h2⟩
    · obtain rfl := hd.uniq hn
      exact .inl ⟨m + w, Nat.le_refl _, new x w he⟩
  · rcases I.start with h | h
    · exact .inl (.inl h)
    · rcases List.mem_cons.1 (hp.mem_iff.1 h) with e | h
      · cases e
        exact .inl (.inr rfl)
      · exact .inr (old _ h)
/-- how many directions lead away from cities that were not reached -/
def rem (E : List Edg) (R : ByteArray → Bool) : Nat := (E.filter fun e => !R e.1).length
theorem rem_grow (E : List Edg) (R R' : ByteArray → Bool) (c : ByteArray) (hc : R c = false) (hR : ∀ x, R' x = (R x || decide (x = c))) : rem E R' + (adj E c).length = rem E R := by
  induction E with
  | nil => rfl
  | cons e r ih =>
    have h2 := hR e.1
    simp only [rem, adj, List.length_map] at ih ⊢
    by_cases h1 : e.1 = c
    · have h3 : R' e.1 = true := by rw [h2]; simp [h1]
      have h4 : R e.1 = false := by rw [h1]; exact hc
      have hd : decide (e.1 = c) = true := by simp [h1]
      simp only [List.filter_cons, h3, h4, hd, Bool.not_true, Bool.not_false, if_true, Bool.false_eq_true, if_false, List.length_cons]
      omega
    · have h3 : R' e.1 = R e.1 := by rw [h2]; simp [h1]
      have hd : decide (e.1 = c) = false := by simp [h1]
      cases h4 : R e.1 <;> simp only [List.filter_cons, h3, h4, hd, Bool.not_true, Bool.not_false, if_true, Bool.false_eq_true, if_false, List.length_cons] <;> omega
theorem rem_le (E : List Edg) (R : ByteArray → Bool) : rem E R ≤ E.length := List.length_filter_le _ _
theorem rem_none (E : List Edg) : rem E (fun _ => false) = E.length := by simp [rem]

/-! ### the reference's search: distances are followed until nothing becomes shorter -/
/-- l: the cities that were reached, with a way's length -/
structure Rel (E : List Edg) (a : ByteArray) (l : List Stp) : Prop where
  way : ∀ c m, (c, m) ∈ l → Wy E a c m
  start : (a, 0) ∈ l
  one : l.Pairwise fun x y => x.1 ≠ y.1
def atL (l : List Stp) (c : ByteArray) : Option Nat := (l.find? fun x => decide (x.1 = c)).map (·.2)
theorem atL_mem {l : List Stp} (h1 : l.Pairwise fun x y => x.1 ≠ y.1) {c : ByteArray} {m : Nat} : atL l c = some m ↔ (c, m) ∈ l := by
  induction l with
  | nil => simp [atL]
  | cons x r ih =>
    obtain ⟨h2, h3⟩ := List.pairwise_cons.1 h1
    obtain ⟨xc, xm⟩ := x
    by_cases h : xc = c
    · subst h
      have : ∀ m', (xc, m') ∉ r := fun m' hm => h2 _ hm rfl
      simp [atL, this]
      exact eq_comm
    · have h' : ¬ c = xc := fun e => h e.symm
      simp only [atL, List.find?_cons, h, decide_false, List.mem_cons, Prod.mk.injEq, h', false_and, false_or]
      exact ih h3
theorem atL_none {l : List Stp} {c : ByteArray} : atL l c = none ↔ ∀ m, (c, m) ∉ l := by
  simp only [atL, Option.map_eq_none_iff, List.find?_eq_none, decide_eq_true_eq]
  exact ⟨fun h m hm => h _ hm rfl, fun h x hx e => h x.2 (by rw [← e]; exact hx)⟩
/-- nothing becomes shorter: these are the shortest ways -/
theorem Rel.done {E : List Edg} {a : ByteArray} {l : List Stp} (I : Rel E a l) (h : ∀ b c w n, (b, c, w) ∈ E → (b, n) ∈ l → ∃ m, (c, m) ∈ l ∧ m ≤ n + w) (to : ByteArray) : disO E a to = atL l to := by
  have all : ∀ c n, Wy E a c n → ∃ m, (c, m) ∈ l ∧ m ≤ n := by
    intro c n hw
    induction hw with
    | here =>
      exact ⟨0, I.start, Nat.le_refl _⟩
    | @on b c n w hb he ih =>
      obtain ⟨m, hm, hle⟩ := ih
      obtain ⟨k, hk, hle'⟩ := h b c w m he hm
      exact ⟨k, hk, by omega⟩
  cases hl : atL l to with
  | none =>
    refine disO_none fun n hn => ?_
    obtain ⟨m, hm, _⟩ := all to n hn
    exact atL_none.1 hl m hm
  | some m =>
    have hm := (atL_mem I.one).1 hl
    refine disO_some ⟨I.way _ _ hm, fun n hn => ?_⟩
    obtain ⟨k, hk, hle⟩ := all to n hn
    have := (atL_mem I.one).2 hk
    rw [hl] at this
    cases this
    exact hle

/-- a way to a city is noted, if it is new or shorter -/
def putL : List Stp → ByteArray → Nat → List Stp
  | [], c, m => [(c, m)]
  | x :: r, c, m => if x.1 = c then (if x.2 ≤ m then x :: r else (c, m) :: r) else x :: putL r c m
def newL : List Stp → ByteArray → Nat → Bool
  | [], _, _ => true
  | x :: r, c, m => if x.1 = c then decide (m < x.2) else newL r c m
theorem putL_same : ∀ (l : List Stp) (c : ByteArray) (m : Nat), newL l c m = false → putL l c m = l
  | [], c, m, h => by simp [newL] at h
  | x :: r, c, m, h => by
    by_cases e : x.1 = c
    · simp [newL, e] at h
      simp [putL, e, h]
    · simp [newL, e] at h
      simp [putL, e, putL_same r c m h]
theorem putL_has : ∀ (l : List Stp) (c : ByteArray) (m : Nat), newL l c m = false → ∃ k, (c, k) ∈ l ∧ k ≤ m
  | [], c, m, h => by simp [newL] at h
  | x :: r, c, m, h => by
    by_cases e : x.1 = c
    · simp [newL, e] at h
      exact ⟨x.2, by rw [← e]; simp, h⟩
    · simp [newL, e] at h
      obtain ⟨k, h1, h2⟩ := putL_has r c m h
      exact ⟨k, by simp [h1], h2⟩
theorem putL_mem : ∀ (l : List Stp) (c : ByteArray) (m : Nat) (x : Stp), x ∈ putL l c m → x ∈ l ∨ x = (c, m)
  | [], c, m, x, h => by simp [putL] at h; exact .inr h
  | y :: r, c, m, x, h => by
    by_cases e : y.1 = c
    · by_cases hm : y.2 ≤ m
      · simp only [putL, e, if_true, hm] at h
        exact .inl h
      · simp only [putL, e, if_true, hm, if_false] at h
        rcases List.mem_cons.1 h with h | h
        · exact .inr h
        · exact .inl (by simp [h])
    · simp only [putL, e, if_false] at h
      rcases List.mem_cons.1 h with h | h
      · exact .inl (by simp [h])
      · rcases putL_mem r c m x h with h | h
        · exact .inl (by simp [h])
        · exact .inr h
theorem putL_keep : ∀ (l : List Stp) (c : ByteArray) (m : Nat) (x : Stp), x ∈ l → x.1 ≠ c ∨ x.2 ≤ m → x ∈ putL l c m
  | [], c, m, x, h, _ => by simp at h
  | y :: r, c, m, x, h, hx => by
    by_cases e : y.1 = c
    · by_cases hm : y.2 ≤ m
      · simp only [putL, e, if_true, hm]
        exact h
      · simp only [putL, e, if_true, hm, if_false]
        rcases List.mem_cons.1 h with rfl | h
        · rcases hx with hx | hx
          · exact absurd e hx
          · exact absurd hx hm
        · simp [h]
    · simp only [putL, e, if_false]
      rcases List.mem_cons.1 h with rfl | h
      · simp
      · simp [putL_keep r c m x h hx]
theorem putL_one : ∀ (l : List Stp) (c : ByteArray) (m : Nat), l.Pairwise (fun x y => x.1 ≠ y.1) → (putL l c m).Pairwise fun x y => x.1 ≠ y.1
  | [], c, m, h => by simp [putL]
  | x :: r, c, m, h => by
    obtain ⟨h1, h2⟩ := List.pairwise_cons.1 h
    by_cases e : x.1 = c
    · by_cases hm : x.2 ≤ m
      · simp only [putL, e, if_true, hm]
        exact h
      · simp only [putL, e, if_true, hm, if_false]
        exact List.pairwise_cons.2 ⟨fun y hy => by rw [← e]; exact h1 y hy, h2⟩
    · simp only [putL, e, if_false]
      refine List.pairwise_cons.2 ⟨fun y hy => ?_, putL_one r c m h2⟩
      rcases putL_mem r c m y hy with h | rfl
      · exact h1 y h
      · exact e
def sumL (l : List Stp) : Nat := (l.map (·.2)).sum
theorem putL_meas : ∀ (l : List Stp) (c : ByteArray) (m : Nat), newL l c m = true → ((putL l c m).length = l.length ∧ sumL (putL l c m) < sumL l ∧ ∃ k, (c, k) ∈ l ∧ m < k) ∨ ((putL l c m).length = l.length + 1 ∧ sumL (putL l c m) = sumL l + m)
  | [], c, m, h => by right; simp [putL, sumL]
  | x :: r, c, m, h => by
    by_cases e : x.1 = c
    · simp [newL, e] at h
      left
      refine ⟨?_, ?_, x.2, by rw [← e]; simp, h⟩
      · simp only [putL, e, if_true, if_neg (show ¬ x.2 ≤ m by omega), List.length_cons]
      · simp only [putL, e, if_true, if_neg (show ¬ x.2 ≤ m by omega), sumL, List.map_cons, List.sum_cons]
        omega
    · simp [newL, e] at h
      rcases putL_meas r c m h with ⟨h1, h2, k, h3, h4⟩ | ⟨h1, h2⟩
      · left
        refine ⟨?_, ?_, k, by simp [h3], h4⟩
        · simp only [putL, e, if_false, List.length_cons, h1]
        · simp only [putL, e, if_false, sumL, List.map_cons, List.sum_cons] at h2 ⊢
          omega
      · right
        simp only [putL, e, if_false, List.length_cons, sumL, List.map_cons, List.sum_cons] at h1 h2 ⊢
        omega
theorem Rel.put {E : List Edg} {a : ByteArray} {l : List Stp} (I : Rel E a l) {b c : ByteArray} {n w : Nat} (hb : (b, n) ∈ l) (he : (b, c, w) ∈ E) : Rel E a (putL l c (n + w)) where
  way x m h := by
    rcases putL_mem l c _ _ h with h | e
    · exact I.way x m h
    · cases e
      exact (I.way b n hb).on he
  start := putL_keep l c _ _ I.start (.inr (Nat.zero_le _))
  one := putL_one l c _ I.one
/-- distinct cities of a list that has them all -/
theorem nodup_le {α : Type} [DecidableEq α] : ∀ (l m : List α), l.Nodup → (∀ x ∈ l, x ∈ m) → l.length ≤ m.length
  | [], m, _, _ => by simp
  | x :: r, m, h, hs => by
    obtain ⟨h1, h2⟩ := List.nodup_cons.1 h
    have := nodup_le r (m.erase x) h2 fun y hy => (List.mem_erase_of_ne (fun e => h1 (by rw [← e]; exact hy))).2 (hs y (by simp [hy]))
    have e := List.length_erase_of_mem (hs x (by simp))
    have hp := List.length_pos_of_mem (hs x (by simp))
    simp only [List.length_cons]
    omega
theorem Wy.end' {E : List Edg} {a c : ByteArray} {n : Nat} (h : Wy E a c n) : c = a ∨ c ∈ E.map (·.2.1) := by
  cases h with
  | here => exact .inl rfl
  | on _ he => exact .inr (List.mem_map.2 ⟨_, he, rfl⟩)
theorem Rel.len {E : List Edg} {a : ByteArray} {l : List Stp} (I : Rel E a l) : l.length ≤ E.length + 1 := by
  have h := nodup_le (l.map (·.1)) (a :: E.map (·.2.1)) (List.pairwise_map.2 I.one) (fun x hx => by
    obtain ⟨⟨c, m⟩, hm, rfl⟩ := List.mem_map.1 hx
    exact List.mem_cons.2 (I.way c m hm).end')
  simpa using h
/-- the sum falls, or a city is new -/
def meas (l : List Stp) : Nat := sumL l + (1000 - l.length) * 100000000
theorem meas_put {l : List Stp} {c : ByteArray} {m : Nat} (h : newL l c m = true) (hl : l.length < 1000) (hm : m < 100000000) : meas (putL l c m) < meas l := by
  have := putL_meas l c m h
  unfold meas
  rcases this with ⟨e, h, _⟩ | ⟨e, h⟩
  · rw [e]; omega
  · rw [e, h]
    have : 1000 - l.length = (1000 - (l.length + 1)) + 1 := by omega
    rw [this, Nat.add_mul]
    omega
/-- no way that was noted is longer than this -/
def capL (l : List Stp) : Prop := ∀ c m, (c, m) ∈ l → m + 20000 ≤ 20000 * l.length
theorem capL.put {l : List Stp} (h : capL l) {b c : ByteArray} {n w : Nat} (hb : (b, n) ∈ l) (hw : w ≤ 20000) : capL (putL l c (n + w)) := by
  intro x m hx
  have hn := h b n hb
  cases hz : newL l c (n + w)
  · rw [putL_same l c _ hz] at hx ⊢
    exact h x m hx
  · rcases putL_meas l c (n + w) hz with ⟨e, _, k, hk, hlt⟩ | ⟨e, _⟩
    · rw [e]
      rcases putL_mem l c _ _ hx with h1 | h1
      · exact h x m h1
      · cases h1
        have := h c k hk
        omega
    · rw [e]
      rcases putL_mem l c _ _ hx with h1 | h1
      · have := h x m h1
        omega
      · cases h1
        omega

end Go.Proofs.YtfgmlbmjjihhfaaGreatDoor

/- Plain facts on numbers as text. -/
namespace Go.Proofs.YtfgmlbmjjihhfaaGreatDoor
set_option linter.unusedSimpArgs false
set_option linter.unusedVariables false

def dgB (c : UInt8) : Bool := decide (48 ≤ (c.toNat : Int) ∧ (c.toNat : Int) ≤ 57)
theorem dgB_nat (c : UInt8) (h : dgB c = true) : 48 ≤ c.toNat ∧ c.toNat ≤ 57 := by simp [dgB] at h; omega
/-- what digits say, behind a number -/
def dvF (a : Nat) (l : List UInt8) : Nat := l.foldl (fun a c => a * 10 + (c.toNat - 48)) a
theorem dvF_nil (a : Nat) : dvF a [] = a := by simp only [dvF, List.foldl_nil]
theorem dvF_cons (a : Nat) (c : UInt8) (r : List UInt8) : dvF a (c :: r) = dvF (a * 10 + (c.toNat - 48)) r := by simp only [dvF, List.foldl_cons]
theorem dvF_snoc (l : List UInt8) (c : UInt8) (a : Nat) : dvF a (l ++ [c]) = dvF a l * 10 + (c.toNat - 48) := by simp only [dvF, List.foldl_append, List.foldl_cons, List.foldl_nil]
theorem dvF_ge : ∀ (l : List UInt8) (a : Nat), a * 10 ^ l.length ≤ dvF a l
  | [], a => by simp [dvF_nil]
  | c :: r, a => by
    have h := dvF_ge r (a * 10 + (c.toNat - 48))
    simp only [dvF_cons, List.length_cons, Nat.pow_succ]
    refine Nat.le_trans ?_ h
    have : a * (10 ^ r.length * 10) = a * 10 * 10 ^ r.length := by rw [Nat.mul_comm (10 ^ r.length) 10, Nat.mul_assoc]
    rw [this]
    exact Nat.mul_le_mul_right _ (by omega)
theorem dvF_lt : ∀ (l : List UInt8) (a : Nat), l.all dgB = true → dvF a l < (a + 1) * 10 ^ l.length
  | [], a, _ => by simp [dvF_nil]
  | c :: r, a, h => by
    simp only [List.all_cons, Bool.and_eq_true] at h
    have hc := dgB_nat c h.1
    have h2 := dvF_lt r (a * 10 + (c.toNat - 48)) h.2
    simp only [dvF_cons, List.length_cons, Nat.pow_succ]
    refine Nat.lt_of_lt_of_le h2 ?_
    have : (a + 1) * (10 ^ r.length * 10) = ((a + 1) * 10) * 10 ^ r.length := by rw [Nat.mul_comm (10 ^ r.length) 10, Nat.mul_assoc]
    rw [this]
    exact Nat.mul_le_mul_right _ (by omega)
theorem dvF_le (r : List UInt8) (a : Nat) : a ≤ dvF a r :=
  Nat.le_trans (Nat.le_mul_of_pos_right _ (Nat.pow_pos (by omega))) (dvF_ge r a)
theorem parse_ok : ∀ (l : List UInt8) (a : Nat), l.all dgB = true → dvF a l < 18446744073709551616 → Lib.parseUint10 a l = .ok (dvF a l)
  | [], a, _, h => by simp only [Lib.parseUint10, dvF_nil, dvF_cons]
  | c :: r, a, h, hb => by
    simp only [List.all_cons, Bool.and_eq_true] at h
    have hc := dgB_nat c h.1
    simp only [dvF_nil, dvF_cons] at hb
    have hle := dvF_le r (a * 10 + (c.toNat - 48))
    simp only [Lib.parseUint10, dvF_nil, dvF_cons]
    rw [if_pos hc, if_neg (by omega), if_neg (by omega)]
    exact parse_ok r _ h.2 hb
theorem parse_range : ∀ (l : List UInt8) (a : Nat), l.all dgB = true → a < 18446744073709551616 → 18446744073709551616 ≤ dvF a l → Lib.parseUint10 a l = .range
  | [], a, _, ha, h => by simp only [dvF_nil, dvF_cons] at h; omega
  | c :: r, a, h, ha, hb => by
    simp only [List.all_cons, Bool.and_eq_true] at h
    have hc := dgB_nat c h.1
    simp only [dvF_nil, dvF_cons] at hb
    simp only [Lib.parseUint10]
    rw [if_pos hc]
    by_cases h1 : 1844674407370955162 ≤ a
    · rw [if_pos h1]
    · rw [if_neg h1]
      by_cases h2 : 18446744073709551616 ≤ a * 10 + (c.toNat - 48)
      · rw [if_pos h2]
      · rw [if_neg h2]
        exact parse_range r _ h.2 (by omega) hb

/-- the digits of a numeral: what stands behind the sign -/
def bodyL : List UInt8 → List UInt8
  | [] => []
  | c :: r => if c.toNat = 45 then r else c :: r
def negB : List UInt8 → Bool
  | [] => false
  | c :: _ => decide (c.toNat = 45)
def headZ : List UInt8 → Bool
  | [] => false
  | c :: _ => decide (c.toNat = 48)
/-- is it the form of a number? -/
def formB (l : List UInt8) : Bool := !(bodyL l).isEmpty && (bodyL l).all dgB && (!headZ (bodyL l) || l == [48])
/-- does the number fit? -/
def fitB (l : List UInt8) : Bool := if negB l then decide (dvF 0 (bodyL l) ≤ 9223372036854775808) else decide (dvF 0 (bodyL l) < 9223372036854775808)
def valI (l : List UInt8) : Int := if negB l then -(dvF 0 (bodyL l) : Int) else (dvF 0 (bodyL l) : Int)
def numR (l : List UInt8) : Int × Int := if formB l then (if fitB l then (valI l, 0) else (0, 4)) else (0, 3)
theorem form_body (l : List UInt8) (h : formB l = true) : bodyL l ≠ [] ∧ (bodyL l).all dgB = true := by
  simp [formB] at h
  exact ⟨h.1.1, by simpa using h.1.2⟩
theorem atoi_eq (l : List UInt8) (h : formB l = true) : Lib.atoiAll l = if fitB l then .ok (valI l) else .range := by
  obtain ⟨h1, h2⟩ := form_body l h
  cases l with
  | nil => exact absurd rfl h1
  | cons c r =>
    have hb : (if c.toNat = 43 ∨ c.toNat = 45 then r else c :: r) = bodyL (c :: r) := by
      by_cases hc : c.toNat = 45
      · simp [bodyL, hc]
      · have hd : dgB c = true := by simp only [bodyL, hc, if_false, List.all_cons, Bool.and_eq_true] at h2; exact h2.1
        have := dgB_nat c hd
        simp only [bodyL, hc, if_false, or_false]
        rw [if_neg (by omega)]
    unfold Lib.atoiAll
    simp only [hb]
    have hn : negB (c :: r) = decide (c.toNat = 45) := rfl
    by_cases hu : dvF 0 (bodyL (c :: r)) < 18446744073709551616
    · have hp : Lib.parseMag (bodyL (c :: r)) = .ok (dvF 0 (bodyL (c :: r))) := by
        unfold Lib.parseMag; rw [if_neg h1]; exact parse_ok _ 0 h2 hu
      rw [hp]
      simp only [fitB, valI, hn]
      by_cases hc : c.toNat = 45
      · simp only [hc, decide_true, if_true, not_true, false_and, if_false, true_and]
        by_cases h9 : dvF 0 (bodyL (c :: r)) ≤ 9223372036854775808
        · rw [if_neg (by omega)]; simp [h9]
        · rw [if_pos (by omega)]; simp [h9]
      · simp only [hc, decide_false, Bool.false_eq_true, if_false, not_false_eq_true, true_and, false_and]
        by_cases h9 : dvF 0 (bodyL (c :: r)) < 9223372036854775808
        · rw [if_neg (by omega)]; simp [h9]
        · rw [if_pos (by omega)]; simp [h9]
    · have hp : Lib.parseMag (bodyL (c :: r)) = .range := by
        unfold Lib.parseMag; rw [if_neg h1]; exact parse_range _ 0 h2 (by omega) (by omega)
      rw [hp]
      simp only [fitB, hn]
      by_cases hc : c.toNat = 45
      · simp only [hc, decide_true, if_true]
        rw [if_neg (by simp; omega)]
      · simp only [hc, decide_false, Bool.false_eq_true, if_false]
        rw [if_neg (by simp; omega)]
theorem long_big (l : List UInt8) (h : formB l = true) (hl : 20 ≤ (bodyL l).length) : 10000000000000000000 ≤ dvF 0 (bodyL l) := by
  obtain ⟨h1, h2⟩ := form_body l h
  have h3 : headZ (bodyL l) = false := by
    simp [formB] at h
    rcases h.2 with h | h
    · exact h
    · rw [h] at hl; simp [bodyL] at hl
  cases hb : bodyL l with
  | nil => exact absurd hb h1
  | cons c r =>
    rw [hb] at h2 h3 hl
    simp only [List.all_cons, Bool.and_eq_true] at h2
    have hc := dgB_nat c h2.1
    simp [headZ] at h3
    simp only [dvF_nil, dvF_cons]
    have hg := dvF_ge r (0 * 10 + (c.toNat - 48))
    refine Nat.le_trans ?_ hg
    have e1 : (10 : Nat) ^ 19 ≤ 10 ^ r.length := Nat.pow_le_pow_right (by omega) (by simp at hl; omega)
    have e2 : 10 ^ r.length ≤ (0 * 10 + (c.toNat - 48)) * 10 ^ r.length := Nat.le_mul_of_pos_left _ (by omega)
    have e3 : (10 : Nat) ^ 19 = 10000000000000000000 := by decide
    omega
theorem long_unfit (l : List UInt8) (h : formB l = true) (hl : 20 ≤ (bodyL l).length) : fitB l = false := by
  have := long_big l h hl
  unfold fitB
  split <;> simp <;> omega
theorem short_small (l : List UInt8) (h : formB l = true) (hl : (bodyL l).length ≤ 19) : dvF 0 (bodyL l) < 10000000000000000000 := by
  have h1 := dvF_lt (bodyL l) 0 (form_body l h).2
  have e1 : (10 : Nat) ^ (bodyL l).length ≤ 10 ^ 19 := Nat.pow_le_pow_right (by omega) hl
  have e3 : (10 : Nat) ^ 19 = 10000000000000000000 := by decide
  omega

/-! ### what is written is read -/
theorem decDigits_step (u : Nat) (h : 10 ≤ u) : Lib.decDigits u = Lib.decDigits (u / 10) ++ [UInt8.ofNat (48 + u % 10)] := by
  rw [Lib.decDigits, dif_neg (by omega)]
theorem decDigits_small (u : Nat) (h : u < 10) : Lib.decDigits u = [UInt8.ofNat (48 + u)] := by
  rw [Lib.decDigits, dif_pos h]
theorem digit_nat (n : Nat) (h : n < 10) : (UInt8.ofNat (48 + n)).toNat = 48 + n := by
  rw [UInt8.toNat_ofNat']; omega
theorem digit_dg (n : Nat) (h : n < 10) : dgB (UInt8.ofNat (48 + n)) = true := by
  simp only [dgB, digit_nat n h]; simp; omega
theorem dec_facts : ∀ u : Nat, dvF 0 (Lib.decDigits u) = u ∧ (Lib.decDigits u).all dgB = true ∧ Lib.decDigits u ≠ [] ∧ (headZ (Lib.decDigits u) = true → u = 0)
  | u => by
    by_cases h : u < 10
    · rw [decDigits_small u h]
      refine ⟨?_, ?_, by simp, ?_⟩
      · simp only [dvF_nil, dvF_cons, digit_nat u h]; omega
      · simp only [List.all_cons, List.all_nil, digit_dg u h]; rfl
      · intro hz; simp only [headZ, digit_nat u h, decide_eq_true_eq] at hz; omega
    · obtain ⟨i1, i2, i3, i4⟩ := dec_facts (u / 10)
      rw [decDigits_step u (by omega)]
      refine ⟨?_, ?_, by simp, ?_⟩
      · rw [dvF_snoc, i1, digit_nat _ (by omega)]; omega
      · simp only [List.all_append, i2, List.all_cons, List.all_nil, digit_dg _ (show u % 10 < 10 by omega)]; rfl
      · intro hz
        have : headZ (Lib.decDigits (u / 10)) = true := by
          cases hd : Lib.decDigits (u / 10) with
          | nil => exact absurd hd i3
          | cons c r => rw [hd] at hz; exact hz
        have := i4 this
        omega
termination_by u => u
theorem dg_ne45 (c : UInt8) (h : dgB c = true) : c.toNat ≠ 45 := by have := dgB_nat c h; omega
theorem itoa_facts (n : Int) (h0 : -9223372036854775808 ≤ n) (h1 : n ≤ 9223372036854775807) : numR (Lib.itoa n) = (n, 0) := by
  unfold Lib.itoa
  by_cases hn : n < 0
  · rw [if_pos hn]
    obtain ⟨i1, i2, i3, i4⟩ := dec_facts n.natAbs
    have hz : headZ (Lib.decDigits n.natAbs) = false := by
      cases hh : headZ (Lib.decDigits n.natAbs)
      · rfl
      · have := i4 hh; omega
    have hf : formB (45 :: Lib.decDigits n.natAbs) = true := by
      have hb : bodyL (45 :: Lib.decDigits n.natAbs) = Lib.decDigits n.natAbs := by simp [bodyL]
      simp only [formB, hb, i2, hz]
      simp [i3]
    have hb : bodyL (45 :: Lib.decDigits n.natAbs) = Lib.decDigits n.natAbs := by simp [bodyL]
    have hng : negB (45 :: Lib.decDigits n.natAbs) = true := by simp [negB]
    have hfit : fitB (45 :: Lib.decDigits n.natAbs) = true := by
      simp only [fitB, hng, hb, i1, if_true]; simp; omega
    simp only [numR, hf, hfit, if_true, valI, hng, hb, i1]
    congr 1
    omega
  · rw [if_neg hn]
    obtain ⟨i1, i2, i3, i4⟩ := dec_facts n.toNat
    cases hd : Lib.decDigits n.toNat with
    | nil => exact absurd hd i3
    | cons c r =>
      rw [hd] at i1 i2 i4
      have hc : dgB c = true := by simp only [List.all_cons, Bool.and_eq_true] at i2; exact i2.1
      have h45 := dg_ne45 c hc
      have hb : bodyL (c :: r) = c :: r := by simp [bodyL, h45]
      have hng : negB (c :: r) = false := by simp [negB, h45]
      have hf : formB (c :: r) = true := by
        simp only [formB, hb, i2]
        cases hh : headZ (c :: r)
        · simp
        · have hu := i4 hh
          rw [hu, decDigits_small 0 (by omega)] at hd
          rw [← hd]
          decide
      have hfit : fitB (c :: r) = true := by
        simp only [fitB, hng, hb, i1, Bool.false_eq_true, if_false]; simp; omega
      simp only [numR, hf, hfit, if_true, valI, hng, hb, i1, Bool.false_eq_true, if_false]
      congr 1
      omega
/-- digits without a zero ahead of them are the digits of what they say -/
theorem dec_dv : ∀ (n : Nat) (l : List UInt8), l.length ≤ n → l ≠ [] → l.all dgB = true → (headZ l = false ∨ l.length = 1) → Lib.decDigits (dvF 0 l) = l
  | 0, l, hn, hne, _, _ => absurd (List.eq_nil_of_length_eq_zero (by omega)) hne
  | n + 1, l, hn, hne, hd, hz => by
    rcases List.eq_nil_or_concat l with h | ⟨r, c, h⟩
    · exact absurd h hne
    · rw [List.concat_eq_append] at h
      subst h
      simp only [List.all_append, List.all_cons, List.all_nil, Bool.and_true, Bool.and_eq_true] at hd
      have hc := dgB_nat c hd.2
      rw [dvF_snoc]
      cases r with
      | nil =>
        rw [decDigits_small _ (by simp only [dvF_nil, dvF_cons]; omega)]
        simp only [dvF_nil, dvF_cons, List.nil_append]
        congr 1
        apply UInt8.toNat_inj.1
        rw [digit_nat _ (by omega)]
        omega
      | cons d r' =>
        have hz' : headZ (d :: r') = false := by
          rcases hz with h | h
          · exact h
          · simp at h
        have ih := dec_dv n (d :: r') (by simp at hn ⊢; omega) (by simp) hd.1 (.inl hz')
        have hpos : 1 ≤ dvF 0 (d :: r') := by
          simp [headZ] at hz'
          simp only [List.all_cons, Bool.and_eq_true] at hd
          have hdd := dgB_nat d hd.1.1
          have hg := dvF_ge r' (0 * 10 + (d.toNat - 48))
          have : 0 * 10 + (d.toNat - 48) ≤ (0 * 10 + (d.toNat - 48)) * 10 ^ r'.length := Nat.le_mul_of_pos_right _ (Nat.pow_pos (by omega))
          simp only [dvF_nil, dvF_cons]
          omega
        have e1 : (dvF 0 (d :: r') * 10 + (c.toNat - 48)) / 10 = dvF 0 (d :: r') := by omega
        have e2 : (dvF 0 (d :: r') * 10 + (c.toNat - 48)) % 10 = c.toNat - 48 := by omega
        rw [decDigits_step _ (by omega), e1, ih, e2]
        congr 2
        apply UInt8.toNat_inj.1
        rw [digit_nat _ (by omega)]
        omega
theorem itoa_back (l : List UInt8) (v : Int) (h : numR l = (v, 0)) : Lib.itoa v = l := by
  unfold numR at h
  cases hf : formB l
  · rw [hf] at h; simp at h
  · rw [hf] at h
    simp only [if_true] at h
    cases hfit : fitB l
    · rw [hfit] at h; simp at h
    · rw [hfit] at h
      simp only [if_true] at h
      have hv := (Prod.mk.inj h).1
      obtain ⟨b1, b2⟩ := form_body l hf
      simp only [formB, Bool.and_eq_true, Bool.or_eq_true] at hf
      cases l with
      | nil => exact absurd rfl b1
      | cons c r =>
        by_cases hc : c.toNat = 45
        · have hb : bodyL (c :: r) = r := by simp [bodyL, hc]
          have hng : negB (c :: r) = true := by simp [negB, hc]
          rw [hb] at b1 b2 hf
          have hz : headZ r = false := by
            rcases hf.2 with h | h
            · simpa using h
            · simp at h; rw [h.1] at hc; simp at hc
          have hdd := dec_dv r.length r (Nat.le_refl _) b1 b2 (.inl hz)
          simp only [valI, hng, hb, if_true] at hv
          have hpos : 1 ≤ dvF 0 r := by
            rcases Nat.eq_zero_or_pos (dvF 0 r) with h | h
            · rw [h] at hdd
              rw [← hdd] at hz
              rw [decDigits_small 0 (by omega)] at hz
              simp [headZ] at hz
            · exact h
          rw [← hv]
          unfold Lib.itoa
          rw [if_pos (by omega)]
          have e : (-(dvF 0 r : Int)).natAbs = dvF 0 r := by omega
          rw [e, hdd]
          congr 1
          exact (UInt8.toNat_inj.1 hc).symm
        · have hb : bodyL (c :: r) = c :: r := by simp [bodyL, hc]
          have hng : negB (c :: r) = false := by simp [negB, hc]
          rw [hb] at b1 b2 hf
          have hdd := dec_dv (c :: r).length (c :: r) (Nat.le_refl _) b1 b2 (by
            rcases hf.2 with h | h
            · left; simpa using h
            · right; simp at h; simp [h])
          simp only [valI, hng, hb, Bool.false_eq_true, if_false] at hv
          rw [← hv]
          unfold Lib.itoa
          rw [if_neg (by omega)]
          have e : ((dvF 0 (c :: r) : Int)).toNat = dvF 0 (c :: r) := by omega
          rw [e, hdd]
end Go.Proofs.YtfgmlbmjjihhfaaGreatDoor

/- Walks of the leaves of package text and of its reference: letters, digits, codes. -/
namespace Go.Proofs.YtfgmlbmjjihhfaaGreatDoor
open Go.RowKit
set_option linter.unusedSimpArgs false
set_option linter.unusedVariables false

/-- a byte is a capital letter, a digit -/
def upB (c : UInt8) : Bool := decide (65 ≤ (c.toNat : Int) ∧ (c.toNat : Int) ≤ 90)

set_option maxHeartbeats 400000 in
theorem isCapital_any (c : UInt8) (w : World) : Calls Tryz.prog 114 #[.int .u8 c.toNat] w fun e w' => e = .returned (.bool (upB c)) ∧ w = w' := by
  by_cases h1 : 65 ≤ (c.toNat : Int)
  · go_enter Tryz.func114, Tryz.ntmps114
    go_wp2
    go_ret
    exact ⟨ret_bool (by simp [upB]; omega), rfl⟩
  · go_enter Tryz.func114, Tryz.ntmps114
    go_wp2
    go_ret
    exact ⟨ret_bool (by simp [upB]; omega), rfl⟩
set_option maxHeartbeats 400000 in
theorem isDigit_any (c : UInt8) (w : World) : Calls Tryz.prog 167 #[.int .u8 c.toNat] w fun e w' => e = .returned (.bool (dgB c)) ∧ w = w' := by
  by_cases h1 : 48 ≤ (c.toNat : Int)
  · go_enter Tryz.func167, Tryz.ntmps167
    go_wp2
    go_ret
    exact ⟨ret_bool (by simp [dgB]; omega), rfl⟩
  · go_enter Tryz.func167, Tryz.ntmps167
    go_wp2
    go_ret
    exact ⟨ret_bool (by simp [dgB]; omega), rfl⟩
set_option maxHeartbeats 400000 in
theorem upper_any (c : UInt8) (w : World) : Calls Tryz.prog 122 #[.int .u8 c.toNat] w fun e w' => e = .returned (.bool (upB c)) ∧ w = w' := by
  by_cases h1 : 65 ≤ (c.toNat : Int)
  · go_enter Tryz.func122, Tryz.ntmps122
    go_wp2
    go_ret
    exact ⟨ret_bool (by simp [upB]; omega), rfl⟩
  · go_enter Tryz.func122, Tryz.ntmps122
    go_wp2
    go_ret
    exact ⟨ret_bool (by simp [upB]; omega), rfl⟩
set_option maxHeartbeats 400000 in
theorem digit_any (c : UInt8) (w : World) : Calls Tryz.prog 123 #[.int .u8 c.toNat] w fun e w' => e = .returned (.bool (dgB c)) ∧ w = w' := by
  by_cases h1 : 48 ≤ (c.toNat : Int)
  · go_enter Tryz.func123, Tryz.ntmps123
    go_wp2
    go_ret
    exact ⟨ret_bool (by simp [dgB]; omega), rfl⟩
  · go_enter Tryz.func123, Tryz.ntmps123
    go_wp2
    go_ret
    exact ⟨ret_bool (by simp [dgB]; omega), rfl⟩

/-- all bytes from k on have a property -/
def allFrom (p : UInt8 → Bool) (s : ByteArray) (k : Nat) : Bool := (s.data.toList.drop k).all p
theorem allFrom_step (p : UInt8 → Bool) (s : ByteArray) (k : Nat) (h : k < s.size) : allFrom p s k = (p s[k] && allFrom p s (k + 1)) := by
  have e : s.data.toList.drop k = s[k] :: s.data.toList.drop (k + 1) := by
    rw [List.drop_eq_getElem_cons (by simpa using h)]; rfl
  simp only [allFrom, e, List.all_cons]
theorem allFrom_end (p : UInt8 → Bool) (s : ByteArray) (k : Nat) (h : s.size ≤ k) : allFrom p s k = true := by
  have e : s.data.toList.drop k = [] := List.drop_eq_nil_of_le (by simpa using h)
  simp only [allFrom, e, List.all_nil]

/-- just n bytes, all of them capital letters -/
def capsB (s : ByteArray) (n : Int) : Bool := decide ((s.size : Int) = n) && allFrom upB s 0

set_option maxHeartbeats 400000 in
theorem capitals_any (s : ByteArray) (n : Int) (w : World) (hs : s.size ≤ maxLen) :
    Calls Tryz.prog 181 #[.string s, .int .i64 n] w fun e w' => e = .returned (.bool (capsB s n)) ∧ w = w' := by
  unfold maxLen at hs
  by_cases hn : (s.size : Int) = n
  · have h1 : ((s.size : Int) != n) = false := by simp [hn]
    have Hn := Lib.hid hn
    clear hn
    go_enter Tryz.func181, Tryz.ntmps181
    go_wp2
    go_loop [12] (fun i => ∃ k : Nat, k ≤ s.size ∧ i = .int .i64 k ∧ allFrom upB s 0 = allFrom upB s k) (fun i => s.size - (intOf i).toNat)
    case atStart => exact ⟨0, Nat.zero_le _, rfl, rfl⟩
    case round =>
      obtain ⟨k, hk, rfl, he⟩ := hrel
      have He := Lib.hid he
      clear he
      by_cases hlt : k < s.size
      · cases hc : upB s[k]
        · go_wp2_with (go_at_call 114; refine (isCapital_any _ _).mono ?_; rintro e w' ⟨rfl, rfl⟩)
          go_ret
          exact ⟨ret_bool (by simp [capsB, Hn.out, He.out, allFrom_step upB s k hlt, hc]), rfl⟩
        · have Hc := Lib.hid (allFrom_step upB s k hlt)
          go_wp2_with (go_at_call 114; refine (isCapital_any _ _).mono ?_; rintro e w' ⟨rfl, rfl⟩)
          go_round
          case rel => exact ⟨k + 1, by omega, by go_num, by rw [He.out, Hc.out, hc]; rfl⟩
          case measure => simp [intOf]; omega
      · go_wp2
        go_ret
        exact ⟨ret_bool (by simp [capsB, Hn.out, He.out, allFrom_end upB s k (by omega)]), rfl⟩
  · have h1 : ((s.size : Int) != n) = true := by simp [hn]
    go_enter Tryz.func181, Tryz.ntmps181
    go_wp2
    go_ret
    exact ⟨ret_bool (by simp [capsB, hn]), rfl⟩

set_option maxHeartbeats 400000 in
theorem letters_any (s : ByteArray) (n : Int) (w : World) (hs : s.size ≤ maxLen) :
    Calls Tryz.prog 142 #[.string s, .int .i64 n] w fun e w' => e = .returned (.bool (capsB s n)) ∧ w = w' := by
  unfold maxLen at hs
  go_enter Tryz.func142, Tryz.ntmps142
  go_wp2
  go_loop [5] (fun i => ∃ k : Nat, k ≤ s.size ∧ i = .int .i64 k ∧ allFrom upB s 0 = allFrom upB s k) (fun i => s.size - (intOf i).toNat)
  case atStart => exact ⟨0, Nat.zero_le _, rfl, rfl⟩
  case round =>
    obtain ⟨k, hk, rfl, he⟩ := hrel
    have He := Lib.hid he
    clear he
    by_cases hlt : k < s.size
    · cases hc : upB s[k]
      · go_wp2_with (go_at_call 122; refine (upper_any _ _).mono ?_; rintro e w' ⟨rfl, rfl⟩)
        go_ret
        exact ⟨ret_bool (by simp [capsB, He.out, allFrom_step upB s k hlt, hc]), rfl⟩
      · have Hc := Lib.hid (allFrom_step upB s k hlt)
        go_wp2_with (go_at_call 122; refine (upper_any _ _).mono ?_; rintro e w' ⟨rfl, rfl⟩)
        go_round
        case rel => exact ⟨k + 1, by omega, by go_num, by rw [He.out, Hc.out, hc]; rfl⟩
        case measure => simp [intOf]; omega
    · go_wp2
      go_ret
      refine ⟨ret_bool ?_, rfl⟩
      rw [capsB, He.out, allFrom_end upB s k (by omega), Bool.and_true]
      rfl

/-- capital letters and digits, from a to b of them -/
def cdB (c : UInt8) : Bool := upB c || dgB c
def codeB (s : ByteArray) (a b : Int) : Bool := decide (a ≤ (s.size : Int)) && decide ((s.size : Int) ≤ b) && allFrom cdB s 0

set_option maxHeartbeats 400000 in
theorem code_any (s : ByteArray) (a b : Int) (w : World) (hs : s.size ≤ maxLen) :
    Calls Tryz.prog 113 #[.string s, .int .i64 a, .int .i64 b] w fun e w' => e = .returned (.bool (codeB s a b)) ∧ w = w' := by
  unfold maxLen at hs
  by_cases h1 : (s.size : Int) < a
  · go_enter Tryz.func113, Tryz.ntmps113
    go_wp2
    go_ret
    exact ⟨ret_bool (by simp [codeB]; omega), rfl⟩
  · by_cases h2 : b < (s.size : Int)
    · go_enter Tryz.func113, Tryz.ntmps113
      go_wp2
      go_ret
      exact ⟨ret_bool (by simp [codeB]; omega), rfl⟩
    · go_enter Tryz.func113, Tryz.ntmps113
      go_wp2
      go_loop [20] (fun i => ∃ k : Nat, k ≤ s.size ∧ i = .int .i64 k ∧ allFrom cdB s 0 = allFrom cdB s k) (fun i => s.size - (intOf i).toNat)
      case atStart => exact ⟨0, Nat.zero_le _, rfl, rfl⟩
      case round =>
        obtain ⟨k, hk, rfl, he⟩ := hrel
        have He := Lib.hid he
        clear he
        by_cases hlt : k < s.size
        · have Hc := Lib.hid (allFrom_step cdB s k hlt)
          cases hc : upB s[k]
          · cases hd : dgB s[k]
            · go_wp2_with (first | (go_at_call 114; refine (isCapital_any _ _).mono ?_; rintro e w' ⟨rfl, rfl⟩) | (go_at_call 167; refine (isDigit_any _ _).mono ?_; rintro e w' ⟨rfl, rfl⟩))
              go_ret
              exact ⟨ret_bool (by simp [codeB, He.out, Hc.out, cdB, hc, hd]), rfl⟩
            · go_wp2_with (first | (go_at_call 114; refine (isCapital_any _ _).mono ?_; rintro e w' ⟨rfl, rfl⟩) | (go_at_call 167; refine (isDigit_any _ _).mono ?_; rintro e w' ⟨rfl, rfl⟩))
              go_round
              case rel => exact ⟨k + 1, by omega, by go_num, by rw [He.out, Hc.out, cdB, hc, hd]; rfl⟩
              case measure => simp [intOf]; omega
          · go_wp2_with (first | (go_at_call 114; refine (isCapital_any _ _).mono ?_; rintro e w' ⟨rfl, rfl⟩) | (go_at_call 167; refine (isDigit_any _ _).mono ?_; rintro e w' ⟨rfl, rfl⟩))
            go_round
            case rel => exact ⟨k + 1, by omega, by go_num, by rw [He.out, Hc.out, cdB, hc]; rfl⟩
            case measure => simp [intOf]; omega
        · go_wp2
          go_ret
          refine ⟨ret_bool ?_, rfl⟩
          have e1 : decide (a ≤ (s.size : Int)) = true := by simp; omega
          have e2 : decide ((s.size : Int) ≤ b) = true := by simp; omega
          rw [codeB, e1, e2, He.out, allFrom_end cdB s k (by omega)]
          rfl

set_option maxHeartbeats 400000 in
theorem rcode_any (s : ByteArray) (a b : Int) (w : World) (hs : s.size ≤ maxLen) :
    Calls Tryz.prog 63 #[.string s, .int .i64 a, .int .i64 b] w fun e w' => e = .returned (.bool (codeB s a b)) ∧ w = w' := by
  unfold maxLen at hs
  go_enter Tryz.func63, Tryz.ntmps63
  go_wp2
  go_loop [7] (fun i => ∃ k : Nat, k ≤ s.size ∧ i = .int .i64 k ∧ allFrom cdB s 0 = allFrom cdB s k) (fun i => s.size - (intOf i).toNat)
  case atStart => exact ⟨0, Nat.zero_le _, rfl, rfl⟩
  case round =>
    obtain ⟨k, hk, rfl, he⟩ := hrel
    have He := Lib.hid he
    clear he
    by_cases hlt : k < s.size
    · have Hc := Lib.hid (allFrom_step cdB s k hlt)
      cases hc : upB s[k]
      · cases hd : dgB s[k]
        · go_wp2_with (first | (go_at_call 122; refine (upper_any _ _).mono ?_; rintro e w' ⟨rfl, rfl⟩) | (go_at_call 123; refine (digit_any _ _).mono ?_; rintro e w' ⟨rfl, rfl⟩))
          go_ret
          exact ⟨ret_bool (by simp [codeB, He.out, Hc.out, cdB, hc, hd]), rfl⟩
        · go_wp2_with (first | (go_at_call 122; refine (upper_any _ _).mono ?_; rintro e w' ⟨rfl, rfl⟩) | (go_at_call 123; refine (digit_any _ _).mono ?_; rintro e w' ⟨rfl, rfl⟩))
          go_round
          case rel => exact ⟨k + 1, by omega, by go_num, by rw [He.out, Hc.out, cdB, hc, hd]; rfl⟩
          case measure => simp [intOf]; omega
      · go_wp2_with (first | (go_at_call 122; refine (upper_any _ _).mono ?_; rintro e w' ⟨rfl, rfl⟩) | (go_at_call 123; refine (digit_any _ _).mono ?_; rintro e w' ⟨rfl, rfl⟩))
        go_round
        case rel => exact ⟨k + 1, by omega, by go_num, by rw [He.out, Hc.out, cdB, hc]; rfl⟩
        case measure => simp [intOf]; omega
    · have hfin : codeB s a b = (decide (a ≤ (s.size : Int)) && decide ((s.size : Int) ≤ b)) := by rw [codeB, He.out, allFrom_end cdB s k (by omega), Bool.and_true]
      have Hfin := Lib.hid hfin
      clear hfin
      by_cases h1 : a ≤ (s.size : Int)
      · go_wp2
        go_ret
        exact ⟨ret_bool (by rw [Hfin.out]; simp [h1]), rfl⟩
      · go_wp2
        go_ret
        exact ⟨ret_bool (by rw [Hfin.out]; simp; omega), rfl⟩

/-- a carrier -/
def carB (s : ByteArray) : Bool := codeB s 2 2 && (upB (s.data.toList.getD 0 0) || upB (s.data.toList.getD 1 0))
theorem getD_eq (s : ByteArray) (k : Nat) (h : k < s.size) : s.data.toList.getD k 0 = s[k] := by
  rw [List.getD_eq_getElem?_getD, List.getElem?_eq_getElem (by simpa using h)]; rfl
set_option maxHeartbeats 400000 in
theorem carrier_any (s : ByteArray) (w : World) (hs : s.size ≤ maxLen) :
    Calls Tryz.prog 52 #[.string s] w fun e w' => e = .returned (.bool (carB s)) ∧ w = w' := by
  cases hc : codeB s 2 2
  · go_enter Tryz.func52, Tryz.ntmps52
    go_wp2_with (go_at_call 113; refine (code_any _ _ _ _ hs).mono ?_; rintro e w' ⟨rfl, rfl⟩)
    go_ret
    exact ⟨ret_bool (by simp [carB, hc]), rfl⟩
  · have h0 : 0 < s.size := by simp [codeB] at hc; omega
    have h1 : 1 < s.size := by simp [codeB] at hc; omega
    have E0 := Lib.hid (getD_eq s 0 h0)
    have E1 := Lib.hid (getD_eq s 1 h1)
    cases hu : upB s[0]
    · go_enter Tryz.func52, Tryz.ntmps52
      go_wp2_with (first | (go_at_call 113; refine (code_any _ _ _ _ hs).mono ?_; rintro e w' ⟨rfl, rfl⟩) | (go_at_call 114; refine (isCapital_any _ _).mono ?_; rintro e w' ⟨rfl, rfl⟩))
      go_ret
      exact ⟨ret_bool (by rw [carB, hc, E0.out, E1.out, hu]; rfl), rfl⟩
    · go_enter Tryz.func52, Tryz.ntmps52
      go_wp2_with (first | (go_at_call 113; refine (code_any _ _ _ _ hs).mono ?_; rintro e w' ⟨rfl, rfl⟩) | (go_at_call 114; refine (isCapital_any _ _).mono ?_; rintro e w' ⟨rfl, rfl⟩))
      go_ret
      exact ⟨ret_bool (by rw [carB, hc, E0.out, hu]; rfl), rfl⟩
set_option maxHeartbeats 400000 in
theorem rcarrier_any (s : ByteArray) (w : World) (hs : s.size ≤ maxLen) :
    Calls Tryz.prog 120 #[.string s] w fun e w' => e = .returned (.bool (carB s)) ∧ w = w' := by
  cases hc : codeB s 2 2
  · go_enter Tryz.func120, Tryz.ntmps120
    go_wp2_with (go_at_call 63; refine (rcode_any _ _ _ _ hs).mono ?_; rintro e w' ⟨rfl, rfl⟩)
    go_ret
    exact ⟨ret_bool (by simp [carB, hc]), rfl⟩
  · have h0 : 0 < s.size := by simp [codeB] at hc; omega
    have h1 : 1 < s.size := by simp [codeB] at hc; omega
    have E0 := Lib.hid (getD_eq s 0 h0)
    have E1 := Lib.hid (getD_eq s 1 h1)
    cases hu : upB s[0]
    · go_enter Tryz.func120, Tryz.ntmps120
      go_wp2_with (first | (go_at_call 63; refine (rcode_any _ _ _ _ hs).mono ?_; rintro e w' ⟨rfl, rfl⟩) | (go_at_call 122; refine (upper_any _ _).mono ?_; rintro e w' ⟨rfl, rfl⟩))
      go_ret
      exact ⟨ret_bool (by rw [carB, hc, E0.out, E1.out, hu]; rfl), rfl⟩
    · go_enter Tryz.func120, Tryz.ntmps120
      go_wp2_with (first | (go_at_call 63; refine (rcode_any _ _ _ _ hs).mono ?_; rintro e w' ⟨rfl, rfl⟩) | (go_at_call 122; refine (upper_any _ _).mono ?_; rintro e w' ⟨rfl, rfl⟩))
      go_ret
      exact ⟨ret_bool (by rw [carB, hc, E0.out, hu]; rfl), rfl⟩

/-- capital letters with single spaces between them; g: the beginning, or behind a space -/
def nm (g : Bool) : List UInt8 → Bool
  | [] => !g
  | c :: r => if upB c then nm false r else if c.toNat = 32 ∧ g = false then nm true r else false
def nameB (s : ByteArray) : Bool := decide (s.size ≤ 30) && nm true s.data.toList
def nmFrom (g : Bool) (s : ByteArray) (k : Nat) : Bool := nm g (s.data.toList.drop k)
theorem nmFrom_step (g : Bool) (s : ByteArray) (k : Nat) (h : k < s.size) :
    nmFrom g s k = if upB s[k] then nmFrom false s (k + 1) else if s[k].toNat = 32 ∧ g = false then nmFrom true s (k + 1) else false := by
  have e : s.data.toList.drop k = s[k] :: s.data.toList.drop (k + 1) := by
    rw [List.drop_eq_getElem_cons (by simpa using h)]; rfl
  simp only [nmFrom, e, nm]
theorem nmFrom_end (g : Bool) (s : ByteArray) (k : Nat) (h : s.size ≤ k) : nmFrom g s k = !g := by
  have e : s.data.toList.drop k = [] := List.drop_eq_nil_of_le (by simpa using h)
  simp only [nmFrom, e, nm]
theorem nmFrom_up (g : Bool) (s : ByteArray) (k : Nat) (h : k < s.size) (hu : upB s[k] = true) : nmFrom g s k = nmFrom false s (k + 1) := by
  rw [nmFrom_step g s k h, if_pos hu]
theorem nmFrom_gap (s : ByteArray) (k : Nat) (h : k < s.size) (hu : upB s[k] = false) (hc : s[k].toNat = 32) : nmFrom false s k = nmFrom true s (k + 1) := by
  rw [nmFrom_step false s k h, if_neg (by simp [hu]), if_pos ⟨hc, rfl⟩]
theorem nmFrom_bad (g : Bool) (s : ByteArray) (k : Nat) (h : k < s.size) (hu : upB s[k] = false) (hc : s[k].toNat ≠ 32 ∨ g = true) : nmFrom g s k = false := by
  rw [nmFrom_step g s k h, if_neg (by simp [hu]), if_neg]
  rintro ⟨h1, h2⟩
  rcases hc with hc | hc
  · exact hc h1
  · rw [hc] at h2; cases h2

/-- the byte at a place; 0 beyond the end -/
def bt (s : ByteArray) (k : Nat) : Nat := (s.data.toList.getD k 0).toNat
theorem bt_eq (s : ByteArray) (k : Nat) (h : k < s.size) : bt s k = s[k].toNat := by rw [bt, getD_eq s k h]
/-- behind a space, or at the beginning -/
def gapB (s : ByteArray) (k : Nat) : Bool := decide (k = 0 ∨ bt s (k - 1) = 32)
theorem upB_ne (c : UInt8) (h : upB c = true) : c.toNat ≠ 32 := by simp [upB] at h; omega

theorem nm_last (c : UInt8) (hc : c.toNat = 32) : ∀ (l : List UInt8) (g : Bool), nm g (l ++ [c]) = false
  | [], g => by cases g <;> simp [nm, hc, upB]
  | d :: r, g => by
    simp only [List.cons_append, nm, nm_last c hc r]
    cases upB d <;> simp
theorem nmFrom_last (s : ByteArray) (h : 0 < s.size) (hc : (s[s.size - 1]'(by omega)).toNat = 32) : nmFrom true s 0 = false := by
  have e : s.data.toList = s.data.toList.take (s.size - 1) ++ [s[s.size - 1]'(by omega)] := by
    have h1 : s.data.toList.length = s.size := by simp
    conv => lhs; rw [← List.take_length (l := s.data.toList), h1, show s.size = s.size - 1 + 1 from by omega]
    rw [List.take_succ_eq_append_getElem (by simp; omega)]; rfl
  rw [nmFrom, List.drop_zero, e]
  exact nm_last _ hc _ _
theorem gapB_zero (s : ByteArray) : gapB s 0 = true := by simp [gapB]
theorem gapB_succ (s : ByteArray) (k : Nat) (h : k < s.size) : gapB s (k + 1) = decide (s[k].toNat = 32) := by
  simp [gapB, bt_eq s k h]

end Go.Proofs.YtfgmlbmjjihhfaaGreatDoor

/- Words for places in memory; walks of the leaves of package places: the searches by code and by city, City, Country. -/
namespace Go.Proofs.YtfgmlbmjjihhfaaGreatDoor
open Go.RowKit Go.Shelf
set_option linter.unusedSimpArgs false
set_option linter.unusedVariables false

theorem bel_cell {w w' : World} {a : Addr} {v : Value} (h : Below w.heap.size w w') (hc : w.cell? a = some v) : w'.cell? a = some v := (h.cell (World.block_lt_of_cell? _ _ hc)).trans hc
theorem bel_get {w5 : World} {a : Addr} {v : Value} (h : w5.cell? a = some v) (W : World) (hS : SW w5 W) : W.cell? a = some v := bel_cell hS h
abbrev placesT : TypeId := 25
abbrev airT : TypeId := 93
abbrev dstT : TypeId := 148
/-- an airport -/
structure Air where
  code : ByteArray
  city : ByteArray
  land : ByteArray
  off : Int
  A : Option Addr
  c : Nat
  shs : Shs
abbrev encA (a : Air) : Value := .agg #[.string a.code, .string a.city, .string a.land, .int .i64 a.off, .slice a.A a.shs.length a.c]
abbrev encD (d : Dst) : Value := .agg #[.string d.f, .string d.t, .int .i64 d.m]
structure OkA (a : Air) : Prop where
  code : a.code.size ≤ maxLen
  city : a.city.size ≤ maxLen
  land : a.land.size ≤ maxLen
  len : a.shs.length < 9223372036854775808
  at' : ∀ k, k < a.shs.length → -9223372036854775808 ≤ shA a.shs k ∧ shA a.shs k ≤ 9223372036854775807
structure OkD (d : Dst) : Prop where
  f : d.f.size ≤ maxLen
  t : d.t.size ≤ maxLen
/-- the airport a lies at cell j of block b -/
structure AirAt (w : World) (b j : Nat) (a : Air) : Prop where
  c0 : w.cell? ⟨b, j, none⟩ = some (.string a.code)
  c1 : w.cell? ⟨b, j + 1, none⟩ = some (.string a.city)
  c2 : w.cell? ⟨b, j + 2, none⟩ = some (.string a.land)
  c3 : w.cell? ⟨b, j + 3, none⟩ = some (.int .i64 a.off)
  c4 : w.cell? ⟨b, j + 4, none⟩ = some (.slice a.A a.shs.length a.c)
  sh : ShL w a.A a.shs
theorem AirAt.more {w w' : World} {b j : Nat} {a : Air} (h : AirAt w b j a) (hb : Below w.heap.size w w') : AirAt w' b j a :=
  ⟨bel_cell hb h.c0, bel_cell hb h.c1, bel_cell hb h.c2, bel_cell hb h.c3, bel_cell hb h.c4, h.sh.more hb⟩
structure DstAt (w : World) (b j : Nat) (d : Dst) : Prop where
  c0 : w.cell? ⟨b, j, none⟩ = some (.string d.f)
  c1 : w.cell? ⟨b, j + 1, none⟩ = some (.string d.t)
  c2 : w.cell? ⟨b, j + 2, none⟩ = some (.int .i64 d.m)
theorem DstAt.more {w w' : World} {b j : Nat} {d : Dst} (h : DstAt w b j d) (hb : Below w.heap.size w w') : DstAt w' b j d := ⟨bel_cell hb h.c0, bel_cell hb h.c1, bel_cell hb h.c2⟩
/-- the airports l lie in the row at A -/
def AirL (w : World) (A : Option Addr) (l : List Air) : Prop := l = [] ∨ ∃ b o, A = some ⟨b, o, none⟩ ∧ b < w.heap.size ∧ ∀ i a, l[i]? = some a → AirAt w b (o + i * 5) a
def DstL (w : World) (A : Option Addr) (l : List Dst) : Prop := l = [] ∨ ∃ b o, A = some ⟨b, o, none⟩ ∧ b < w.heap.size ∧ ∀ i a, l[i]? = some a → DstAt w b (o + i * 3) a
theorem AirL.more {w w' : World} {A : Option Addr} {l : List Air} (h : AirL w A l) (hb : Below w.heap.size w w') : AirL w' A l := by
  rcases h with h | ⟨b, o, rfl, hlt, hc⟩
  · exact .inl h
  · exact .inr ⟨b, o, rfl, Nat.lt_of_lt_of_le hlt hb.size, fun i a hi => (hc i a hi).more hb⟩
theorem DstL.more {w w' : World} {A : Option Addr} {l : List Dst} (h : DstL w A l) (hb : Below w.heap.size w w') : DstL w' A l := by
  rcases h with h | ⟨b, o, rfl, hlt, hc⟩
  · exact .inl h
  · exact .inr ⟨b, o, rfl, Nat.lt_of_lt_of_le hlt hb.size, fun i a hi => (hc i a hi).more hb⟩
theorem AirL.at {w : World} {A : Option Addr} {l : List Air} (h : AirL w A l) {k : Nat} (hk : k < l.length) : ∃ b o a, A = some ⟨b, o, none⟩ ∧ b < w.heap.size ∧ l[k]? = some a ∧ AirAt w b (o + k * 5) a := by
  rcases h with h | ⟨b, o, hA, hlt, hc⟩
  · rw [h] at hk; simp at hk
  · exact ⟨b, o, l[k], hA, hlt, List.getElem?_eq_getElem hk, hc k _ (List.getElem?_eq_getElem hk)⟩
theorem DstL.at {w : World} {A : Option Addr} {l : List Dst} (h : DstL w A l) {k : Nat} (hk : k < l.length) : ∃ b o a, A = some ⟨b, o, none⟩ ∧ b < w.heap.size ∧ l[k]? = some a ∧ DstAt w b (o + k * 3) a := by
  rcases h with h | ⟨b, o, hA, hlt, hc⟩
  · rw [h] at hk; simp at hk
  · exact ⟨b, o, l[k], hA, hlt, List.getElem?_eq_getElem hk, hc k _ (List.getElem?_eq_getElem hk)⟩
/-- places by value -/
structure PV where
  A : Option Addr
  ca : Nat
  l : List Air
  D : Option Addr
  cd : Nat
  ds : List Dst
abbrev encP (p : PV) : Value := .agg #[.slice p.A p.l.length p.ca, .slice p.D p.ds.length p.cd]
structure PlL (w : World) (p : PV) : Prop where
  air : AirL w p.A p.l
  dst : DstL w p.D p.ds
theorem PlL.more {w w' : World} {p : PV} (h : PlL w p) (hb : Below w.heap.size w w') : PlL w' p := ⟨h.air.more hb, h.dst.more hb⟩
structure OkP (p : PV) : Prop where
  air : ∀ a ∈ p.l, OkA a
  dst : ∀ d ∈ p.ds, OkD d
  la : p.l.length ≤ 40
  ld : p.ds.length ≤ 60

set_option maxHeartbeats 400000 in
theorem rusable_any (d : Dst) (w : World) : Calls Tryz.prog 112 #[encD d] w fun e w' => e = .returned (.bool (useB d)) ∧ Below w.heap.size w w' := by
  have HU : Hid (useB d = (decide (1 ≤ d.m) && decide (d.m ≤ 20000))) := Lib.hid rfl
  by_cases h1 : 1 ≤ d.m
  all_goals
    go_enter Tryz.func112, Tryz.ntmps112
    go_wp2
    go_ret
    exact ⟨ret_bool (by rw [HU.out]; first | (simp [h1]; done) | (simp [h1]; omega)), bel_alloc _ _⟩
/-! ### slices.IndexFunc -/
/-- the first place of which p says true -/
def idxA (p : Air → Bool) : List Air → Int
  | [] => -1
  | a :: r => if p a then 0 else if idxA p r < 0 then -1 else idxA p r + 1
theorem idxA_find (p : Air → Bool) : ∀ l : List Air, (idxA p l = -1 ∧ l.find? p = none) ∨ ∃ (k : Nat) (a : Air), idxA p l = (k : Int) ∧ l[k]? = some a ∧ l.find? p = some a ∧ k < l.length
  | [] => .inl ⟨rfl, rfl⟩
  | a :: r => by
    cases h : p a
    · rcases idxA_find p r with ⟨h1, h2⟩ | ⟨k, x, h1, h2, h3, h4⟩
      · left
        exact ⟨by simp [idxA, h, h1], by simp [List.find?_cons, h, h2]⟩
      · right
        refine ⟨k + 1, x, ?_, by simpa using h2, by simp [List.find?_cons, h, h3], by simpa using h4⟩
        simp only [idxA, h, h1]
        rw [if_neg (by simp), if_neg (by omega)]
        omega
    · right
      exact ⟨0, a, by simp [idxA, h], by simp, by simp [List.find?_cons, h], by simp⟩
theorem idxA_yes {p : Air → Bool} {l : List Air} {k : Nat} {a : Air} (h : ∀ (j : Nat) (x : Air), j < k → l[j]? = some x → p x = false) (hk : l[k]? = some a) (hp : p a = true) : idxA p l = (k : Int) := by
  induction l generalizing k with
  | nil => simp at hk
  | cons b r ih =>
    cases k with
    | zero => simp at hk; subst hk; simp [idxA, hp]
    | succ k =>
      have h0 := h 0 b (by omega) (by simp)
      have := ih (k := k) (fun j x hj hx => h (j + 1) x (by omega) (by simpa using hx)) (by simpa using hk)
      simp only [idxA, h0, this]
      rw [if_neg (by simp), if_neg (by omega)]
      omega
theorem idxA_no {p : Air → Bool} {l : List Air} (h : ∀ (j : Nat) (x : Air), l[j]? = some x → p x = false) : idxA p l = -1 := by
  induction l with
  | nil => rfl
  | cons b r ih =>
    have h0 := h 0 b (by simp)
    have := ih (fun j x hx => h (j + 1) x (by simpa using hx))
    simp [idxA, h0, this]

set_option maxHeartbeats 4000000 in
set_option maxRecDepth 100000 in
theorem index_any (g : Nat) (cb : Array Value) (A : Option Addr) (c : Nat) (l : List Air) (p : Air → Bool) (w : World) (eg : ∀ args w, (callFunc g args).run Tryz.prog w = .ok (.enter g args) w) (hl : l.length ≤ 40) (hL : AirL w A l)
    (hf : ∀ (a : Air) (W : World), a ∈ l → Below w.heap.size w W → Calls Tryz.prog g (#[encA a] ++ cb) W fun e w' => e = .returned (.bool (p a)) ∧ Below W.heap.size W w') :
    Calls Tryz.prog 206 #[.slice A l.length c, .func (.func g) #[] cb] w fun e w' => e = .returned (.int .i64 (idxA p l)) ∧ Below w.heap.size w w' := by
  have HF := Lib.hid hf
  have HI : Hid (∀ (k : Nat) (a : Air), (∀ (j : Nat) (x : Air), j < k → l[j]? = some x → p x = false) → l[k]? = some a → p a = true → idxA p l = (k : Int)) := Lib.hid (fun k a => idxA_yes)
  have HN : Hid ((∀ (j : Nat) (x : Air), l[j]? = some x → p x = false) → idxA p l = -1) := Lib.hid idxA_no
  clear hf
  generalize idxA p l = r at *
  go_enter Tryz.func206, Tryz.ntmps206
  go_wp2
  go_loopw [8] (fun vi wr => ∃ k : Nat, k ≤ l.length ∧ vi = .int .i64 k ∧ Hid (∀ (j : Nat) (x : Air), j < k → l[j]? = some x → p x = false) ∧ Below w.heap.size w wr) (fun vi _ => l.length - (intOf vi).toNat)
  case atStart => exact ⟨0, Nat.zero_le _, rfl, Lib.hid (fun j x hj => absurd hj (Nat.not_lt_zero _)), Below.refl _ _⟩
  case round =>
    obtain ⟨k, hk, rfl, HK, hb⟩ := hrel
    by_cases hlt : k < l.length
    · obtain ⟨b, off, a, rfl, hgl, hka, ha⟩ := (hL.more hb).at hlt
      have i2 : (k : Int) < (l.length : Int) := by omega
      obtain ⟨z0, z1, z2, z3, z4, zs⟩ := ha
      have hc := HF.out a wr (List.mem_of_getElem? hka) hb
      cases hp : p a <;> rw [hp] at hc
      · have HP := Lib.hid hp
        have HA := Lib.hid hka
        clear hp hka
        go_wp2_with (refine hc.mono ?_; rintro e w' ⟨rfl, hb'⟩)
        go_roundw
        case rel =>
          refine ⟨k + 1, by omega, by go_num, Lib.hid (fun j x hj hx => ?_), hb.trans (hb'.mono hb.size)⟩
          by_cases hjk : j = k
          · subst hjk
            rw [HA.out] at hx
            cases hx
            exact HP.out
          · exact HK.out j x (by omega) hx
        case measure => simp [intOf]; omega
      · have HR := Lib.hid (HI.out k a HK.out hka hp)
        clear hp hka
        go_wp2_with (refine hc.mono ?_; rintro e w' ⟨rfl, hb'⟩)
        go_ret
        exact ⟨by rw [HR.out]; rfl, hb.trans (hb'.mono hb.size)⟩
    · have HR := Lib.hid (HN.out (fun j x hx => HK.out j x (by have := (List.getElem?_eq_some_iff.1 hx).1; omega) hx))
      go_wp2
      go_ret
      exact ⟨by rw [HR.out]; rfl, hb⟩

end Go.Proofs.YtfgmlbmjjihhfaaGreatDoor

/- Walks of the closures, of byCode, byCity, City and Country. -/
namespace Go.Proofs.YtfgmlbmjjihhfaaGreatDoor
open Go.RowKit Go.Shelf
set_option linter.unusedSimpArgs false
set_option linter.unusedVariables false

abbrev noB : ByteArray := ⟨#[]⟩
def airZ : Air := ⟨noB, noB, noB, 0, none, 0, []⟩
/-- texts are equal -/
def eqS (s t : ByteArray) : Bool := s.toList == t.toList
theorem eqS_iff (s t : ByteArray) : eqS s t = true ↔ s = t := by
  unfold eqS
  rw [beq_iff_eq, ByteArray.toList_eq, ByteArray.toList_eq]
  constructor
  · intro h
    have := congrArg List.toArray h
    simp at this
    cases s; cases t
    simpa using this
  · rintro rfl; rfl
theorem eqS_self (s : ByteArray) : eqS s s = true := (eqS_iff s s).2 rfl
def findC (l : List Air) (s : ByteArray) : Option Air := l.find? fun a => eqS a.code s
def findT (l : List Air) (s : ByteArray) : Option Air := l.find? fun a => eqS a.city s
def cityP (l : List Air) (s : ByteArray) : ByteArray := match findC l s with
  | some a => a.city
  | none => if (findT l s).isSome then s else noB
def landP (l : List Air) (s : ByteArray) : ByteArray := match findC l s with
  | some a => a.land
  | none => match findT l s with
    | some a => a.land
    | none => noB

set_option maxHeartbeats 400000 in
theorem codec_any (a : Air) (s : ByteArray) (B : Nat) (W : World) (z : W.cell? ⟨B, 0, none⟩ = some (.string s)) :
    Calls Tryz.prog 207 #[encA a, .pointer (some ⟨B, 0, none⟩)] W fun e w' => e = .returned (.bool (eqS a.code s)) ∧ Below W.heap.size W w' := by
  have hlt := World.block_lt_of_cell? _ _ z
  have z' := (Below.cell (bel_alloc W (.cells #[.string a.code, .string a.city, .string a.land, .int .i64 a.off, .slice a.A a.shs.length a.c] airT)) (p := ⟨B, 0, none⟩) hlt).trans z
  go_enter Tryz.func207, Tryz.ntmps207
  go_wp2
  go_ret
  exact ⟨rfl, bel_alloc _ _⟩
theorem eg_code : ∀ args w, (callFunc 207 args).run Tryz.prog w = .ok (.enter 207 args) w := enters_of Tryz.func207 (by kernel_rfl) rfl
/-- the two boxes that byCode makes: the places' and the text's -/
def B2 (w : World) (p : PV) (s : ByteArray) : World := (w.alloc (.cells #[.slice p.A p.l.length p.ca, .slice p.D p.ds.length p.cd] placesT)).alloc (.cells #[.string s] 9)
theorem B2.bel (w : World) (p : PV) (s : ByteArray) : Below w.heap.size w (B2 w p s) := (bel_alloc _ _).alloc (by simp) _
theorem B2.zs (w : World) (p : PV) (s : ByteArray) : (B2 w p s).cell? ⟨w.heap.size + 1, 0, none⟩ = some (.string s) := by
  have h := cells_new (w.alloc (.cells #[.slice p.A p.l.length p.ca, .slice p.D p.ds.length p.cd] placesT)) #[.string s] 9 0
  rw [World.size_alloc] at h
  exact h
set_option maxHeartbeats 1000000 in
theorem byCode_any (p : PV) (s : ByteArray) (w : World) (hl : p.l.length ≤ 40) (hL : AirL w p.A p.l) :
    Calls Tryz.prog 168 #[encP p, .string s] w fun e w' => e = .returned (.int .i64 (idxA (fun a => eqS a.code s) p.l)) ∧ Below w.heap.size w w' := by
  have CI := Lib.hid (index_any _ #[.pointer (some ⟨w.heap.size + 1, 0, none⟩)] p.A p.ca p.l (fun a => eqS a.code s) (B2 w p s) eg_code hl (hL.more (B2.bel w p s))
    (fun a W ha hW => codec_any a s _ W (bel_cell hW (B2.zs w p s))))
  have hb := B2.bel w p s
  unfold B2 at *
  generalize idxA (fun a => eqS a.code s) p.l = r at *
  go_enter Tryz.func168, Tryz.ntmps168
  go_wp2_with (go_at_call 206; refine CI.out.mono ?_; rintro e w' ⟨rfl, hb'⟩)
  go_ret
  exact ⟨rfl, hb.trans (hb'.mono hb.size)⟩
end Go.Proofs.YtfgmlbmjjihhfaaGreatDoor

/- A map that the call makes, as a plain function from keys to values, whatever its elements are. -/
namespace Go.Proofs.YtfgmlbmjjihhfaaGreatDoor
open Go.RowKit Go.Maps Go.MapKept
open Go.WideElems (Fit rd rg pl rd_key rd_val rg_of rd_mk)
open Go.ChangeMaps (setBlock putKey notKey heap_setBlock_same heap_setBlock_other)
open Go.WideMaps (keyOf_string_mk)
set_option linter.unusedSimpArgs false
set_option linter.unusedVariables false
set_option linter.unusedSectionVars false

/-- an element, read as the value that it is -/
def Rh (v : Value) : Option (DataW Value × List MemPlace) := some (.held v, [])
theorem rd_h' {P : Program} {k : TypeId} {x : MapEntry} {l : Lit} (h : keyOf P k x.key = some l) : rd P k Rh x = some (l, .held x.val) := by
  unfold rd
  rw [h]
  rfl
theorem rd_h {P : Program} {k : TypeId} {x : MapEntry} {l : Lit} (h : keyOf P k x.key = some l) : rg P k Rh x = (l, .held x.val) := rg_of (rd_h' h)

section
variable {κ : Type} [DecidableEq κ] {P : Program} {k t e : TypeId} {en : κ → Value} {w w' : World} {b n : Nat} {g : κ → Option Value}
/-- block b is a map of at most n entries: at key c it has g c -/
def MapK (P : Program) (k : TypeId) (en : κ → Value) (w : World) (b n : Nat) (g : κ → Option Value) : Prop :=
  ∃ es clock, w.heap[b]? = some (.map es clock) ∧ Fit P k Rh es clock ∧ es.size ≤ n ∧ ∀ c v, g c = some v ↔ ∃ x ∈ es.toList, x.key = en c ∧ x.val = v
theorem MapK.made (w : World) (P : Program) (k : TypeId) (en : κ → Value) : MapK P k en (w.alloc (.map #[] 0)) w.heap.size 0 (fun _ => none) :=
  ⟨#[], 0, (MapKept.heap_alloc w _).1, ⟨by simp, stamped_empty 0, by simp⟩, Nat.le_refl _, by simp⟩
theorem MapK.lt (h : MapK P k en w b n g) : b < w.heap.size := by
  obtain ⟨es, clock, hb, _⟩ := h
  exact (Array.getElem?_eq_some_iff.1 hb).1
theorem MapK.same (h : MapK P k en w b n g) (he : w'.heap[b]? = w.heap[b]?) : MapK P k en w' b n g := by
  obtain ⟨es, clock, hb, r⟩ := h
  exact ⟨es, clock, he.trans hb, r⟩
theorem MapK.more (h : MapK P k en w b n g) (hb : Below w.heap.size w w') : MapK P k en w' b n g := h.same (hb.block b h.lt)
theorem MapK.grown {row : Option Nat} (h : MapK P k en w b n g) (hg : w.grownBy w' row) (hne : some b ≠ row) : MapK P k en w' b n g := h.same (hg.block b h.lt hne)
theorem MapK.look (h : MapK P k en w b n g) (K : Keyed P k) (ht : P.underlying t = some (.map k e)) {z : Value} (hz : (zeroValue e).run P w = .ok z w) {c : κ} {kl : Lit} (hkey : keyOf P k (en c) = some kl) (ok : Bool) :
    (Instr.lookup t (.map (some b)) (en c) ok).run P w = .ok (if ok then .tuple #[(g c).getD z, .bool (g c).isSome] else (g c).getD z) w := by
  obtain ⟨es, clock, hb, F, _, hg⟩ := h
  rcases Maps.fit_look ok K ht hz hb F hkey with ⟨hrun, hno, _⟩ | ⟨e0, y, hm, he, hrun, _⟩
  · have hn : g c = none := by
      cases hc : g c with
      | none => rfl
      | some v =>
        obtain ⟨x, hx, hxe, _⟩ := (hg c v).1 hc
        exact absurd hxe (hno x hx)
    rw [hrun, hn]
    rfl
  · have hs : g c = some e0.val := (hg c _).2 ⟨e0, hm, he, rfl⟩
    rw [hrun, hs]
    rfl
theorem MapK.store (h : MapK P k en w b n g) (K : Keyed P k) (hen : ∀ c c', en c = en c' → c = c') (ht : P.underlying t = some (.map k e)) (hn : n < maxLen) {c : κ} {kl : Lit} (hkey : keyOf P k (en c) = some kl) (val : Value) :
    ∃ w', (Instr.mapUpdate t (.map (some b)) (en c) val).run P w = .ok () w' ∧ MapK P k en w' b (n + 1) (fun c' => if c' = c then some val else g c') ∧ w.grownBy w' (some b) := by
  obtain ⟨es, clock, hb, F, hs, hg⟩ := h
  obtain ⟨es', clock', hrun, F', hput, _, _, hmem⟩ := Maps.fit_store (R' := Rh) K ht hb F (Nat.lt_of_le_of_lt hs hn) (fun _ _ _ _ hz => hz) hkey (show Rh val = some (.held val, []) from rfl)
  refine ⟨_, hrun, ⟨es', clock', heap_setBlock_same hb _, F', ?_, fun c' v => ?_⟩, ⟨rfl, rfl, rfl, by simp [setBlock], fun i _ hi => heap_setBlock_other hb _ (fun e => hi (by rw [e]))⟩⟩
  · have e1 : es'.size = ((es'.toList.map (rg P k Rh)).foldr DataW.insert []).length := by rw [length_sorted]; simp
    rw [e1, hput]
    unfold putKey
    rw [length_insert]
    have e2 := List.length_filter_le (notKey kl) ((es.toList.map (rg P k Rh)).foldr DataW.insert [])
    rw [length_sorted] at e2
    simp at e2
    omega
  · -- who stands among the new entries
    have back : ∀ x, x ∈ es.toList → x.key ≠ en c → ∃ x' ∈ es'.toList, x'.key = x.key ∧ x'.val = x.val := by
      intro x hx hne
      obtain ⟨y, hy⟩ := F.reads x hx
      have hk := rd_key hy
      have h1 : rg P k Rh x ∈ (es'.toList.map (rg P k Rh)).foldr DataW.insert [] := by
        rw [hput]
        unfold putKey
        refine ChangeMaps.mem_insert_iff.2 (.inr (List.mem_filter.2 ⟨(WideShapes.sorted_perm _).mem_iff.2 (List.mem_map.2 ⟨x, hx, rfl⟩), ?_⟩))
        refine (notKey_iff (K.key hkey)).2 fun e1 => hne ?_
        rw [rd_h hk] at e1
        dsimp only at e1
        rw [e1] at hk
        exact K.inj hk hkey
      obtain ⟨x', hx', he'⟩ := List.mem_map.1 ((WideShapes.sorted_perm _).mem_iff.1 h1)
      obtain ⟨y', hy'⟩ := F'.reads x' hx'
      have hk' := rd_key hy'
      rw [rd_h hk, rd_h hk'] at he'
      simp only [Prod.mk.injEq, DataW.held.injEq] at he'
      refine ⟨x', hx', ?_, he'.2⟩
      rw [he'.1] at hk'
      exact K.inj hk' hk
    have new : ∃ x' ∈ es'.toList, x'.key = en c ∧ x'.val = val := by
      have h1 : ((kl, .held val) : Lit × DataW Value) ∈ (es'.toList.map (rg P k Rh)).foldr DataW.insert [] := by
        rw [hput]
        unfold putKey
        exact ChangeMaps.mem_insert_iff.2 (.inl rfl)
      obtain ⟨x', hx', he'⟩ := List.mem_map.1 ((WideShapes.sorted_perm _).mem_iff.1 h1)
      obtain ⟨y', hy'⟩ := F'.reads x' hx'
      have hk' := rd_key hy'
      rw [rd_h hk'] at he'
      simp only [Prod.mk.injEq, DataW.held.injEq] at he'
      refine ⟨x', hx', ?_, he'.2⟩
      rw [he'.1] at hk'
      exact K.inj hk' hkey
    have once : ∀ x ∈ es'.toList, ∀ x' ∈ es'.toList, x.key = x'.key → x.val = x'.val := by
      intro x hx x' hx' hxx
      have hn := ((stamped_iff es' clock').1 F'.stamped).2.2
      apply Classical.byContradiction
      intro hv
      have hne : x ≠ x' := fun e => hv (by rw [e])
      have := List.pairwise_iff_getElem.1 hn
      obtain ⟨i, hi, rfl⟩ := List.getElem_of_mem hx
      obtain ⟨j, hj, rfl⟩ := List.getElem_of_mem hx'
      rcases Nat.lt_trichotomy i j with h | h | h
      · exact this i j hi hj h hxx
      · subst h; exact hne rfl
      · exact this j i hj hi h hxx.symm
    by_cases hc : c' = c
    · subst hc
      show (if c' = c' then some val else g c') = some v ↔ _
      rw [if_pos rfl]
      obtain ⟨x', h1, h2, h3⟩ := new
      constructor
      · intro h
        cases h
        exact ⟨x', h1, h2, h3⟩
      · rintro ⟨x, hx, hxe, rfl⟩
        rw [once x hx x' h1 (hxe.trans h2.symm), h3]
    · show (if c' = c then some val else g c') = some v ↔ _
      rw [if_neg hc, hg]
      constructor
      · rintro ⟨x, hx, hxe, rfl⟩
        obtain ⟨x', h1, h2, h3⟩ := back x hx (fun e => hc (hen _ _ (hxe.symm.trans e)))
        exact ⟨x', h1, h2.trans hxe, h3⟩
      · rintro ⟨x, hx, hxe, rfl⟩
        rcases hmem x hx with ⟨h1, _⟩ | ⟨h1, _⟩
        · exact ⟨x, h1, hxe, rfl⟩
        · exact absurd (hen _ _ (hxe.symm.trans h1)) hc
/-- 'm[k] = v' at the operation -/
theorem wpList_put {ops : Array Oper} {rest : List Oper} {o : Oper} {a : Act} {Q : Exit → Act → World → Prop} (hgd : o.guard = none) (m x v : Operand) (t : TypeId) (hop : o.op = Op.mapUpdate t m x v)
    (K : Keyed P k) (hen : ∀ c c', en c = en c' → c = c') (ht : P.underlying t = some (.map k e)) (hm : a.eval m = .map (some b)) (h : MapK P k en w b n g) (hn : n < maxLen) (c : κ) (kl : Lit) (hx : a.eval x = en c) (hkey : keyOf P k (en c) = some kl)
    (hK : ∀ w', MapK P k en w' b (n + 1) (fun c' => if c' = c then some (a.eval v) else g c') → w.grownBy w' (some b) → wpList P ops Q rest (a.put o.dst undef) w') : wpList P ops Q (o :: rest) a w := by
  refine wpList_plain hgd fun K' hK' => ?_
  obtain ⟨w', hrun, r1, r2⟩ := h.store (val := a.eval v) K hen ht hn hkey
  unfold Oper.wp
  simp [execOp, hop, hm, hx, hrun, Result.andThen]
  exact hK' _ _ (hK w' r1 r2)
end

/-! ### the maps of this program -/
theorem strK : Keyed Tryz.prog 9 := string_keyed Tryz.underlying9
theorem str_inj (c c' : ByteArray) (h : Value.string c = Value.string c') : c = c' := by cases h; rfl
theorem str_key (c : ByteArray) (h : c.size ≤ maxLen) : keyOf Tryz.prog 9 (.string c) = some (.string c.data.toList) := keyOf_string_mk Tryz.underlying9 h
abbrev MapS (w : World) (b n : Nat) (g : ByteArray → Option Value) : Prop := MapK Tryz.prog 9 Value.string w b n g
theorem zeroB (w : World) : (zeroValue 4).run Tryz.prog w = .ok (.bool false) w := by kernel_rfl
theorem zeroS (w : World) : (zeroValue 9).run Tryz.prog w = .ok (.string noB) w := by kernel_rfl
end Go.Proofs.YtfgmlbmjjihhfaaGreatDoor

/- Plain facts on a heap of stops. -/
namespace Go.Proofs.YtfgmlbmjjihhfaaGreatDoor
set_option linter.unusedSimpArgs false
set_option linter.unusedVariables false

def el (l : List Stp) (i : Nat) : Stp := l.getD i (⟨#[]⟩, 0)
def key (l : List Stp) (i : Nat) : Nat := (el l i).2
def swapL (l : List Stp) (i j : Nat) : List Stp := (l.set i (el l j)).set j (el l i)
theorem swapL_len (l : List Stp) (i j : Nat) : (swapL l i j).length = l.length := by simp [swapL]
theorem el_some {l : List Stp} {i : Nat} (h : i < l.length) : l[i]? = some (el l i) := by
  unfold el
  rw [List.getD_eq_getElem?_getD, List.getElem?_eq_getElem h]
  rfl
theorem el_get {l : List Stp} {i : Nat} (h : i < l.length) : l[i] = el l i := by
  have := el_some h
  rw [List.getElem?_eq_getElem h] at this
  exact Option.some.inj this
theorem el_swap (l : List Stp) (i j : Nat) (hi : i < l.length) (hj : j < l.length) (k : Nat) : el (swapL l i j) k = if k = j then el l i else if k = i then el l j else el l k := by
  have e : (swapL l i j)[k]? = if k = j then some (el l i) else if k = i then some (el l j) else l[k]? := by
    unfold swapL
    rw [List.getElem?_set]
    by_cases h1 : j = k
    · subst h1
      simp [hj]
    · rw [if_neg h1, if_neg (fun h => h1 h.symm), List.getElem?_set]
      by_cases h2 : i = k
      · subst h2
        simp [hi]
      · rw [if_neg h2, if_neg (fun h => h2 h.symm)]
  show (swapL l i j).getD k _ = _
  rw [List.getD_eq_getElem?_getD, e]
  split
  · rfl
  · split
    · rfl
    · rw [← List.getD_eq_getElem?_getD]; rfl
theorem key_swap (l : List Stp) (i j : Nat) (hi : i < l.length) (hj : j < l.length) (k : Nat) : key (swapL l i j) k = if k = j then key l i else if k = i then key l j else key l k := by
  unfold key
  rw [el_swap l i j hi hj]
  split
  · rfl
  · split <;> rfl
theorem swapL_perm (l : List Stp) (i j : Nat) (hi : i < l.length) (hj : j < l.length) : (swapL l i j).Perm l := by
  have h := List.set_set_perm («as» := l) hi hj
  have e : swapL l i j = (l.set i l[j]).set j l[i] := by
    unfold swapL
    rw [el_get hi, el_get hj]
  rw [e]
  exact h
/-- the first n are a heap -/
def HeapB (l : List Stp) (n : Nat) : Prop := ∀ i, 0 < i → i < n → key l ((i - 1) / 2) ≤ key l i
def UpX (l : List Stp) (j : Nat) : Prop :=
  (∀ i, 0 < i → i < l.length → i ≠ j → key l ((i - 1) / 2) ≤ key l i) ∧ (∀ i, 0 < i → i < l.length → (i - 1) / 2 = j → 0 < j → key l ((j - 1) / 2) ≤ key l i)
theorem UpX.done {l : List Stp} {j : Nat} (h : UpX l j) (hj : j = 0 ∨ key l ((j - 1) / 2) ≤ key l j) : HeapB l l.length := by
  intro i h0 hi
  by_cases e : i = j
  · subst e
    rcases hj with h | h
    · omega
    · exact h
  · exact h.1 i h0 hi e
theorem UpX.swap {l : List Stp} {j : Nat} (h : UpX l j) (h0 : 0 < j) (hj : j < l.length) (hlt : key l j < key l ((j - 1) / 2)) : UpX (swapL l ((j - 1) / 2) j) ((j - 1) / 2) := by
  have hp : (j - 1) / 2 < j := by omega
  have K := key_swap l ((j - 1) / 2) j (by omega) hj
  rw [UpX, swapL_len]
  constructor
  · intro i hi0 hi hne
    rw [K, K]
    by_cases e : i = j
    · subst e
      rw [if_neg (by omega), if_pos rfl, if_pos rfl]
      omega
    · rw [if_neg e, if_neg hne]
      have h1 := h.1 i hi0 hi e
      by_cases e1 : (i - 1) / 2 = j
      · rw [if_pos e1]
        exact h.2 i hi0 hi e1 h0
      · rw [if_neg e1]
        by_cases e2 : (i - 1) / 2 = (j - 1) / 2
        · rw [if_pos e2]
          rw [e2] at h1
          omega
        · rw [if_neg e2]
          exact h1
  · intro i hi0 hi hpar hpos
    rw [K, K]
    have hg : ((j - 1) / 2 - 1) / 2 < (j - 1) / 2 := by omega
    rw [if_neg (show ¬ ((j - 1) / 2 - 1) / 2 = j by omega), if_neg (show ¬ ((j - 1) / 2 - 1) / 2 = (j - 1) / 2 by omega)]
    have hq := h.1 ((j - 1) / 2) hpos (by omega) (by omega)
    by_cases e : i = j
    · rw [if_pos e]
      exact hq
    · rw [if_neg e, if_neg (show ¬ i = (j - 1) / 2 by omega)]
      have h1 := h.1 i hi0 hi e
      rw [hpar] at h1
      omega
def DownX (l : List Stp) (n i : Nat) : Prop :=
  (∀ k, 0 < k → k < n → (k - 1) / 2 ≠ i → key l ((k - 1) / 2) ≤ key l k) ∧ (∀ k, 0 < k → k < n → (k - 1) / 2 = i → 0 < i → key l ((i - 1) / 2) ≤ key l k)
theorem DownX.done {l : List Stp} {n i : Nat} (h : DownX l n i) (hc : ∀ k, 0 < k → k < n → (k - 1) / 2 = i → key l i ≤ key l k) : HeapB l n := by
  intro k h0 hk
  by_cases e : (k - 1) / 2 = i
  · rw [e]
    exact hc k h0 hk e
  · exact h.1 k h0 hk e
theorem DownX.swap {l : List Stp} {n i j : Nat} (h : DownX l n i) (hn : n ≤ l.length) (hj : j < n) (hp : (j - 1) / 2 = i) (h0 : 0 < j) (hmin : ∀ k, 0 < k → k < n → (k - 1) / 2 = i → key l j ≤ key l k) (hlt : key l j < key l i) :
    DownX (swapL l i j) n j := by
  have hi : i < j := by omega
  have K := key_swap l i j (by omega) (by omega)
  constructor
  · intro k hk0 hk hne
    rw [K, K]
    rw [if_neg hne]
    by_cases e : (k - 1) / 2 = i
    · rw [if_pos e]
      by_cases e1 : k = j
      · rw [if_pos e1]
        omega
      · rw [if_neg e1, if_neg (show ¬ k = i by omega)]
        exact hmin k hk0 hk e
    · rw [if_neg e]
      have h1 := h.1 k hk0 hk e
      have e1 : ¬ k = j := fun e1 => e (by rw [e1]; exact hp)
      rw [if_neg e1]
      by_cases e2 : k = i
      · rw [if_pos e2]
        have h2 := h.2 j h0 hj hp (by omega)
        rw [e2]
        exact h2
      · rw [if_neg e2]
        exact h1
  · intro k hk0 hk hpar hpos
    rw [K, K]
    rw [hp, if_neg (show ¬ i = j by omega), if_pos rfl, if_neg (show ¬ k = j by omega), if_neg (show ¬ k = i by omega)]
    have := h.1 k hk0 hk (by omega)
    rw [hpar] at this
    exact this
theorem HeapB.min {l : List Stp} {n : Nat} (h : HeapB l n) : ∀ k, k < n → key l 0 ≤ key l k := by
  intro k
  induction k using Nat.strongRecOn with
  | ind k ih =>
    intro hk
    by_cases e : k = 0
    · subst e; exact Nat.le_refl _
    · exact Nat.le_trans (ih ((k - 1) / 2) (by omega) (by omega)) (h k (by omega) hk)
theorem heap_pop {l : List Stp} (h : HeapB l l.length) (h0 : 0 < l.length) : DownX (swapL l 0 (l.length - 1)) (l.length - 1) 0 := by
  have K := key_swap l 0 (l.length - 1) h0 (by omega)
  refine ⟨fun k hk0 hk hne => ?_, fun k hk0 hk hp h => absurd h (by omega)⟩
  rw [K, K, if_neg (by omega), if_neg hne, if_neg (by omega), if_neg (by omega)]
  exact h k hk0 (by omega)
theorem heap_push {l : List Stp} (h : HeapB l l.length) (x : Stp) : UpX (l ++ [x]) l.length := by
  have K : ∀ i, i < l.length → key (l ++ [x]) i = key l i := fun i hi => by
    unfold key el
    rw [List.getD_eq_getElem?_getD, List.getD_eq_getElem?_getD, List.getElem?_append_left hi]
  refine ⟨fun i hi0 hi hne => ?_, fun i hi0 hi hp h => ?_⟩
  · simp only [List.length_append, List.length_cons, List.length_nil] at hi
    rw [K _ (by omega), K _ (by omega)]
    exact h i hi0 (by omega)
  · simp only [List.length_append, List.length_cons, List.length_nil] at hi
    omega
theorem key_mem {l : List Stp} {x : Stp} (h : x ∈ l) : ∃ i, i < l.length ∧ key l i = x.2 := by
  obtain ⟨i, hi, rfl⟩ := List.getElem_of_mem h
  exact ⟨i, hi, by unfold key; rw [el_get hi]⟩
theorem heap_one (x : Stp) : HeapB [x] [x].length := fun i h0 hi => by simp at hi; omega
/-- what a heap gives first -/
theorem heap_first {l l2 : List Stp} (h : HeapB l l.length) (h0 : 0 < l.length) (hp : l2.Perm (swapL l 0 (l.length - 1))) (hlen : l2.length = l.length) (he : el l2 (l.length - 1) = el (swapL l 0 (l.length - 1)) (l.length - 1)) :
    l.Perm (el l2 (l.length - 1) :: l2.take (l.length - 1)) ∧ ∀ x ∈ l, (el l2 (l.length - 1)).2 ≤ x.2 := by
  have e0 : el l2 (l.length - 1) = el l 0 := by
    rw [he, el_swap l 0 (l.length - 1) h0 (by omega), if_pos rfl]
  constructor
  · have h1 : l2 = l2.take (l.length - 1) ++ [el l2 (l.length - 1)] := by
      have := List.take_append_getElem (l := l2) (i := l.length - 1) (by omega)
      rw [el_get] at this
      rw [this, List.take_of_length_le (by omega)]
    have h2 : l.Perm l2 := (hp.trans (swapL_perm l 0 (l.length - 1) h0 (by omega))).symm
    exact h2.trans (by
      rw [h1]
      have h3 : (el (l2.take (l.length - 1) ++ [el l2 (l.length - 1)]) (l.length - 1)) = el l2 (l.length - 1) := by rw [← h1]
      rw [h3]
      have h4 : (l2.take (l.length - 1) ++ [el l2 (l.length - 1)]).take (l.length - 1) = l2.take (l.length - 1) := by rw [← h1]
      rw [h4]
      exact List.perm_append_comm)
  · intro x hx
    obtain ⟨i, hi, hk⟩ := key_mem hx
    rw [e0, ← hk]
    exact h.min i hi

end Go.Proofs.YtfgmlbmjjihhfaaGreatDoor
