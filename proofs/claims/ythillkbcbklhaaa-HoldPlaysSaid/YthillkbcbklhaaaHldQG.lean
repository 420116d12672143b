/- What is told of holds hangs on their contents alone, wherever their legs lie. -/
import Derived.Test.YthillkbcbklhaaaHldQE
import Derived.Test.YthillkbcbklhaaaHldN
namespace Go.Proofs.Ythillkbcbklhaaa
open Go.RowKit Go.Shelf Go.Maps Go.MapKept
set_option linter.unusedSimpArgs false
set_option linter.unusedVariables false

abbrev Con := Int × List Lid × ByteArray × Int × Int
theorem con_of {x y : Hd} (h : conH x = conH y) : x.id = y.id ∧ x.l = y.l ∧ x.cls = y.cls ∧ x.cnt = y.cnt ∧ x.til = y.til := by
  unfold conH at h
  simp only [Prod.mk.injEq] at h
  exact h
/-- lists with the same contents -/
inductive SamH : List Hd → List Hd → Prop
  | nil : SamH [] []
  | cons {x y : Hd} {r s : List Hd} (h : conH x = conH y) (hr : SamH r s) : SamH (x :: r) (y :: s)
theorem SamH.of_map : ∀ {hs ks : List Hd}, hs.map conH = ks.map conH → SamH hs ks
  | [], [], _ => .nil
  | [], y :: s, h => by simp at h
  | x :: r, [], h => by simp at h
  | x :: r, y :: s, h => by
    simp only [List.map_cons, List.cons.injEq] at h
    exact .cons h.1 (SamH.of_map h.2)
theorem SamH.map {hs ks : List Hd} (h : SamH hs ks) : hs.map conH = ks.map conH := by
  induction h with
  | nil => rfl
  | cons h _ ih => simp [h, ih]
theorem SamH.len {hs ks : List Hd} (h : SamH hs ks) : hs.length = ks.length := by
  have := congrArg List.length h.map
  simpa using this
theorem sam_filter {p : Hd → Bool} (hp : ∀ x y, conH x = conH y → p x = p y) {hs ks : List Hd} (h : SamH hs ks) : SamH (hs.filter p) (ks.filter p) := by
  induction h with
  | nil => exact .nil
  | @cons x y r s h _ ih =>
    rw [List.filter_cons, List.filter_cons, hp x y h]
    cases p y
    · exact ih
    · exact .cons h ih
theorem SamH.drop {hs ks : List Hd} (h : SamH hs ks) (i : Int) : SamH (dropH hs i) (dropH ks i) := sam_filter (fun x y e => by rw [(con_of e).1]) h
theorem SamH.gone {hs ks : List Hd} (h : SamH hs ks) (m : Int) : SamH (goneH m hs) (goneH m ks) := sam_filter (fun x y e => by unfold endB; rw [(con_of e).2.2.2.2]) h
theorem SamH.rest {hs ks : List Hd} (h : SamH hs ks) (m : Int) : SamH (restH m hs) (restH m ks) := sam_filter (fun x y e => by unfold endB; rw [(con_of e).2.2.2.2]) h
theorem lt_con {x y x' y' : Hd} (h : conH x = conH x') (k : conH y = conH y') : ltH x y ↔ ltH x' y' := by
  unfold ltH
  rw [(con_of h).1, (con_of h).2.2.2.2, (con_of k).1, (con_of k).2.2.2.2]
theorem SamH.ins {hs ks : List Hd} (h : SamH hs ks) {x y : Hd} (e : conH x = conH y) : SamH (insH x hs) (insH y ks) := by
  induction h with
  | nil => exact .cons e .nil
  | @cons a b r s h hr ih =>
    unfold insH
    by_cases hl : ltH a x
    · rw [if_pos hl, if_pos ((lt_con h e).1 hl)]
      exact .cons h ih
    · rw [if_neg hl, if_neg (fun q => hl ((lt_con h e).2 q))]
      exact .cons e (.cons h hr)
theorem SamH.find {hs ks : List Hd} (h : SamH hs ks) (i : Int) : (findH hs i = none ∧ findH ks i = none) ∨ ∃ x y, findH hs i = some x ∧ findH ks i = some y ∧ conH x = conH y := by
  induction h with
  | nil => exact .inl ⟨rfl, rfl⟩
  | @cons a b r s h hr ih =>
    unfold findH at ih ⊢
    rw [List.find?_cons, List.find?_cons, (con_of h).1]
    by_cases e : b.id = i
    · rw [decide_eq_true e]
      exact .inr ⟨a, b, rfl, rfl, h⟩
    · rw [decide_eq_false e]
      exact ih
theorem rgt_con {x y : Hd} (e : conH x = conH y) : rgtH x = rgtH y := by
  obtain ⟨h1, h2, h3, h4, h5⟩ := con_of e
  unfold rgtH
  rw [h1, h2, h4, h5]
theorem sam_putE {hs ks : List Hd} (h : SamH hs ks) {x y : Hd} (e : conH x = conH y) : putE hs x = putE ks y := by
  unfold putE
  rw [rgt_con e, (con_of e).1]
  rcases h.find y.id with ⟨h1, h2⟩ | ⟨a, b, h1, h2, _⟩
  · rw [h1, h2]
  · rw [h1, h2]; rfl
theorem sam_putG {hs ks : List Hd} (h : SamH hs ks) {x y : Hd} (e : conH x = conH y) : SamH (putG hs x) (putG ks y) := by
  unfold putG
  rw [sam_putE h e]
  split
  · exact h.ins e
  · exact h
theorem sam_dropE {hs ks : List Hd} (h : SamH hs ks) (i : Int) : dropE hs i = dropE ks i := by
  unfold dropE
  rcases h.find i with ⟨h1, h2⟩ | ⟨a, b, h1, h2, _⟩
  · rw [h1, h2]
  · rw [h1, h2]; rfl
theorem sam_extE {hs ks : List Hd} (h : SamH hs ks) (i m : Int) : extE hs i m = extE ks i m := by
  unfold extE
  rcases h.find i with ⟨h1, h2⟩ | ⟨a, b, h1, h2, _⟩
  · rw [h1, h2]
  · rw [h1, h2]; rfl
theorem sam_extG {hs ks : List Hd} (h : SamH hs ks) (i m : Int) : SamH (extG hs i m) (extG ks i m) := by
  unfold extG
  rcases h.find i with ⟨h1, h2⟩ | ⟨a, b, h1, h2, e⟩
  · rw [h1, h2]; exact h
  · rw [h1, h2]
    dsimp only
    split
    · exact (h.drop i).ins (by obtain ⟨e1, e2, e3, e4, e5⟩ := con_of e; unfold conH; simp [e1, e2, e3, e4])
    · exact h
theorem SamH.held {hs ks : List Hd} (h : SamH hs ks) (i : Lid) (s : ByteArray) : heldP i s hs = heldP i s ks := by
  induction h with
  | nil => rfl
  | @cons a b r t h _ ih =>
    obtain ⟨h1, h2, h3, h4, h5⟩ := con_of h
    unfold heldP hldB
    rw [h3, h2, h4, ih]
/-- with sorted lists, those that end by m come first -/
theorem gone_take {hs : List Hd} (h : SrtH hs) {m : Int} {k : Nat} (hk : k ≤ hs.length) (h1 : ∀ (j : Nat) (x : Hd), j < k → hs[j]? = some x → x.til ≤ m) (h2 : ∀ x, hs[k]? = some x → ¬ x.til ≤ m) : goneH m hs = hs.take k ∧ restH m hs = hs.drop k := by
  have hall : ∀ x ∈ hs.drop k, endB m x = false := by
    intro x hx
    unfold endB
    rw [decide_eq_false_iff_not]
    cases hd : hs.drop k with
    | nil => rw [hd] at hx; cases hx
    | cons y r =>
      have hy : hs[k]? = some y := by
        have := congrArg (fun q => q[0]?) hd
        simpa using this
      have hs' : (y :: r).Pairwise ltH := by rw [← hd]; exact h.ord.sublist (List.drop_sublist k hs)
      rw [hd, List.mem_cons] at hx
      have hy2 := h2 y hy
      rcases hx with rfl | hx
      · exact hy2
      · have := (List.pairwise_cons.1 hs').1 x hx
        unfold ltH at this
        omega
  have hfirst : ∀ x ∈ hs.take k, endB m x = true := by
    intro x hx
    unfold endB
    rw [decide_eq_true_eq]
    obtain ⟨j, hj, e⟩ := List.getElem_of_mem hx
    rw [List.length_take] at hj
    rw [List.getElem_take] at e
    exact h1 j x (by omega) (by rw [List.getElem?_eq_getElem (by omega), e])
  have hsp : hs = hs.take k ++ hs.drop k := (List.take_append_drop k hs).symm
  constructor
  · have : goneH m (hs.take k ++ hs.drop k) = hs.take k := by
      unfold goneH
      rw [List.filter_append, List.filter_eq_self.2 hfirst, List.filter_eq_nil_iff.2 (fun x hx => by rw [hall x hx]; exact Bool.false_ne_true), List.append_nil]
    rw [← hsp] at this
    exact this
  · have : restH m (hs.take k ++ hs.drop k) = hs.drop k := by
      unfold restH
      rw [List.filter_append, List.filter_eq_nil_iff.2 (fun x hx => by rw [hfirst x hx]; simp), List.filter_eq_self.2 (fun x hx => by rw [hall x hx]; rfl), List.nil_append]
    rw [← hsp] at this
    exact this
end Go.Proofs.Ythillkbcbklhaaa
