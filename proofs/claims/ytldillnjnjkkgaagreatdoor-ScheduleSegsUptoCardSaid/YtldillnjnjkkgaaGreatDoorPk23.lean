/- Words and walks that the laws below ask: SchR, PthA, PthB, PthC, SchS. -/
import Derived.Shelf.Abstract
import Derived.Deep.LoopGhost
import Derived.Test.YtldillnjnjkkgaaGreatDoorPk9
import Derived.Test.YtldillnjnjkkgaaGreatDoorPk12
import Derived.Test.YtldillnjnjkkgaaGreatDoorPk22
/- Plain words: the order of legs on a day is a strict weak order; a sorted list whose keys differ is the only one. -/
namespace Go.Proofs.YtldillnjnjkkgaaGreatDoor
open Go.RowKit Go.Shelf Go.Lib Go.Sort
set_option linter.unusedSimpArgs false
set_option linter.unusedVariables false

def LessT (x y : ByteArray) : Prop := Op.bytesLess x.toList y.toList = true
theorem lessT_irrefl (x : ByteArray) : ¬ LessT x x := fun h => by
  have h2 := less_asym _ _ h
  unfold LessT at h
  rw [h] at h2
  cases h2
theorem lessT_trans {x y z : ByteArray} (h1 : LessT x y) (h2 : LessT y z) : LessT x z := by
  unfold LessT at *
  rw [bytesLess_eq, decide_eq_true_eq] at *
  exact List.lt_trans h1 h2
theorem lessT_tri (x y : ByteArray) : LessT x y ∨ x = y ∨ LessT y x := by
  by_cases e : x = y
  · exact .inr (.inl e)
  · cases h : Op.bytesLess x.toList y.toList with
    | true => exact .inl h
    | false => exact .inr (.inr (less_total _ _ h (toList_ne e)))
theorem dtLt_iff (a b : Dt) : dtLt a b = true ↔ a.dep < b.dep ∨ (a.dep = b.dep ∧ (LessT a.car b.car ∨ (a.car = b.car ∧ a.num < b.num))) := by
  unfold dtLt LessT
  simp only [Bool.or_eq_true, Bool.and_eq_true, decide_eq_true_eq]
theorem dtLt_irrefl (a : Dt) : dtLt a a = false := by
  rw [← Bool.not_eq_true, dtLt_iff]
  rintro (h | ⟨_, h | ⟨_, h⟩⟩)
  · omega
  · exact lessT_irrefl _ h
  · omega
theorem dtLt_trans {a b c : Dt} (h1 : dtLt a b = true) (h2 : dtLt b c = true) : dtLt a c = true := by
  rw [dtLt_iff] at *
  rcases h1 with h1 | ⟨e1, h1⟩
  · rcases h2 with h2 | ⟨e2, _⟩
    · exact .inl (by omega)
    · exact .inl (by omega)
  · rcases h2 with h2 | ⟨e2, h2⟩
    · exact .inl (by omega)
    · refine .inr ⟨e1.trans e2, ?_⟩
      rcases h1 with h1 | ⟨f1, h1⟩
      · rcases h2 with h2 | ⟨f2, _⟩
        · exact .inl (lessT_trans h1 h2)
        · exact .inl (f2 ▸ h1)
      · rcases h2 with h2 | ⟨f2, h2⟩
        · exact .inl (f1 ▸ h2)
        · exact .inr ⟨f1.trans f2, by omega⟩
theorem dtLt_split {a c : Dt} (b : Dt) (h : dtLt a c = true) : dtLt a b = true ∨ dtLt b c = true := by
  simp only [dtLt_iff] at *
  rcases Int.lt_trichotomy a.dep b.dep with g | g | g
  · exact .inl (.inl g)
  · rcases h with h | ⟨e, h⟩
    · exact .inr (.inl (by omega))
    · rcases lessT_tri a.car b.car with k | k | k
      · exact .inl (.inr ⟨g, .inl k⟩)
      · rcases h with h | ⟨f, h⟩
        · exact .inr (.inr ⟨by omega, .inl (k ▸ h)⟩)
        · by_cases q : a.num < b.num
          · exact .inl (.inr ⟨g, .inr ⟨k, q⟩⟩)
          · exact .inr (.inr ⟨by omega, .inr ⟨k ▸ f, by omega⟩⟩)
      · refine .inr (.inr ⟨by omega, .inl ?_⟩)
        rcases h with h | ⟨f, h⟩
        · exact lessT_trans k h
        · exact f ▸ k
  · rcases h with h | ⟨e, h⟩
    · exact .inr (.inl (by omega))
    · exact .inr (.inl (by omega))
theorem dtSWO : SWO dtLt where
  irrefl := dtLt_irrefl
  trans := fun x y z h1 h2 => dtLt_trans h1 h2
  ntrans := fun x y z h1 h2 => by
    rw [← Bool.not_eq_true]
    intro h
    rcases dtLt_split y h with h | h
    · rw [h] at h1; cases h1
    · rw [h] at h2; cases h2
/-- what the program's comparison of legs returns -/
def cmT (x y : ByteArray) : Int := if Op.bytesLess x.toList y.toList then -1 else if Op.bytesLess y.toList x.toList then 1 else 0
def cmD (a b : Dt) : Int := if Lib.compareInt a.dep b.dep ≠ 0 then Lib.compareInt a.dep b.dep else if cmT a.car b.car ≠ 0 then cmT a.car b.car else Lib.compareInt a.num b.num
theorem cmp_int (x y : Int) : (x < y ∧ Lib.compareInt x y = -1) ∨ (x = y ∧ Lib.compareInt x y = 0) ∨ (y < x ∧ Lib.compareInt x y = 1) := by
  unfold Lib.compareInt
  by_cases h1 : x < y
  · exact .inl ⟨h1, by rw [if_pos h1]⟩
  · by_cases h2 : y < x
    · exact .inr (.inr ⟨h2, by rw [if_neg h1, if_pos h2]⟩)
    · exact .inr (.inl ⟨by omega, by rw [if_neg h1, if_neg h2]⟩)
theorem cmp_txt (x y : ByteArray) : (LessT x y ∧ cmT x y = -1) ∨ (x = y ∧ cmT x y = 0) ∨ (LessT y x ∧ cmT x y = 1) := by
  unfold cmT
  rcases lessT_tri x y with h | h | h
  · have h1 : Op.bytesLess x.toList y.toList = true := h
    exact .inl ⟨h, by rw [if_pos h1]⟩
  · subst h
    have := lessT_irrefl x
    unfold LessT at this
    exact .inr (.inl ⟨rfl, by rw [if_neg this, if_neg this]⟩)
  · have h2 := less_asym _ _ h
    have h1 : Op.bytesLess y.toList x.toList = true := h
    exact .inr (.inr ⟨h, by rw [if_neg (by rw [h2]; simp), if_pos h1]⟩)
theorem cmD_lt (a b : Dt) : decide (cmD a b < 0) = dtLt a b := by
  rw [Bool.eq_iff_iff, decide_eq_true_eq, dtLt_iff]
  unfold cmD
  rcases cmp_int a.dep b.dep with ⟨h, e⟩ | ⟨h, e⟩ | ⟨h, e⟩ <;> rw [e]
  · simp; exact .inl h
  · rcases cmp_txt a.car b.car with ⟨g, e2⟩ | ⟨g, e2⟩ | ⟨g, e2⟩ <;> rw [e2]
    · simp; exact .inr ⟨h, .inl g⟩
    · have ni : ¬ LessT a.car b.car := by rw [g]; exact lessT_irrefl _
      rcases cmp_int a.num b.num with ⟨k, e3⟩ | ⟨k, e3⟩ | ⟨k, e3⟩ <;> rw [e3] <;> simp [h, g, k, lessT_irrefl] <;> omega
    · have ni : ¬ LessT a.car b.car := fun h2 => lessT_irrefl _ (lessT_trans g h2)
      have ne : a.car ≠ b.car := fun h2 => by rw [h2] at g; exact lessT_irrefl _ g
      simp [ni, ne]; omega
  · simp; omega
theorem dtOrd : Ordd (ltOf cmD) dtLt (fun _ _ => True) where
  swo := dtSWO
  key := fun x y _ => cmD_lt y x

/-! ### the only sorted list -/
/-- legs at different places have different keys -/
def KeysD (L : List Dt) : Prop := L.Pairwise fun x y => dtLt x y = true ∨ dtLt y x = true
theorem KeysD.perm {L L' : List Dt} (h : KeysD L) (hp : L'.Perm L) : KeysD L' :=
  hp.symm.pairwise h (fun h => h.symm)
theorem SortedD.pair {L : List Dt} (h : SortedD L) : L.Pairwise fun x y => dtLt y x = false := by
  rw [List.pairwise_iff_getElem]
  intro i j hi hj hij
  exact h i j _ _ hij (List.getElem?_eq_getElem hi) (List.getElem?_eq_getElem hj)
theorem strict_of {L : List Dt} (h : SortedD L) (k : KeysD L) : L.Pairwise fun x y => dtLt x y = true := by
  have h1 := h.pair
  exact (h1.and k).imp (fun {x y} ⟨a, b⟩ => by
    rcases b with b | b
    · exact b
    · rw [a] at b; cases b)
theorem strict_unique : ∀ {L M : List Dt}, L.Perm M → (L.Pairwise fun x y => dtLt x y = true) → (M.Pairwise fun x y => dtLt x y = true) → L = M
  | [], M, hp, _, _ => (List.nil_perm.1 hp).symm
  | x :: L, [], hp, _, _ => by have := hp.length_eq; simp at this
  | x :: L, y :: M, hp, hl, hm => by
    have e : x = y := by
      have h1 : x ∈ y :: M := hp.mem_iff.1 (List.mem_cons_self)
      have h2 : y ∈ x :: L := hp.mem_iff.2 (List.mem_cons_self)
      rcases List.mem_cons.1 h1 with h1 | h1
      · exact h1
      · rcases List.mem_cons.1 h2 with h2 | h2
        · exact h2.symm
        · have a := (List.pairwise_cons.1 hm).1 x h1
          have b := (List.pairwise_cons.1 hl).1 y h2
          have := dtLt_trans a b
          rw [dtLt_irrefl] at this
          cases this
    subst e
    rw [strict_unique (hp.cons_inv) (List.pairwise_cons.1 hl).2 (List.pairwise_cons.1 hm).2]
theorem sorted_unique {L M N : List Dt} (k : KeysD N) (h1 : L.Perm N) (h2 : M.Perm N) (s1 : SortedD L) (s2 : SortedD M) : L = M :=
  strict_unique (h1.trans h2.symm) (strict_of s1 (k.perm h1)) (strict_of s2 (k.perm h2))

/-! ### the reference's insertion -/
/-- the place behind all legs that x does not come before -/
def atD (x : Dt) : List Dt → Nat → Nat
  | _, 0 => 0
  | L, k + 1 => match L[k]? with
    | some y => if dtLt x y then atD x L k else k + 1
    | none => 0
def insD (L : List Dt) (x : Dt) : List Dt := L.take (atD x L L.length) ++ x :: L.drop (atD x L L.length)
theorem atD_le (x : Dt) (L : List Dt) : ∀ k, atD x L k ≤ k
  | 0 => Nat.le_refl _
  | k + 1 => by
    have := atD_le x L k
    unfold atD
    split
    · split <;> omega
    · omega
theorem atD_step {x y : Dt} {L : List Dt} {k : Nat} (h : L[k]? = some y) : atD x L (k + 1) = if dtLt x y then atD x L k else k + 1 := by
  rw [atD, h]
theorem atD_after (x : Dt) (L : List Dt) : ∀ k, k ≤ L.length → ∀ i y, atD x L k ≤ i → i < k → L[i]? = some y → dtLt x y = true
  | 0, _, i, y, _, h, _ => by omega
  | k + 1, hkl, i, y, h1, h2, hy => by
    unfold atD at h1
    split at h1
    · rename_i z hz
      split at h1
      · rename_i hlt
        by_cases e : i = k
        · subst e; rw [hy] at hz; cases hz; exact hlt
        · exact atD_after x L k (by omega) i y h1 (by omega) hy
      · omega
    · rename_i hn
      rw [List.getElem?_eq_getElem (by omega)] at hn
      cases hn
theorem atD_before (x : Dt) (L : List Dt) (hs : SortedD L) : ∀ k, k ≤ L.length → ∀ i y, i < atD x L k → L[i]? = some y → dtLt x y = false
  | 0, _, i, y, h, _ => by simp [atD] at h
  | k + 1, hk, i, y, h, hy => by
    obtain ⟨z, hz⟩ : ∃ z, L[k]? = some z := ⟨_, List.getElem?_eq_getElem (by omega)⟩
    rw [atD_step hz] at h
    split at h
    · exact atD_before x L hs k (by omega) i y h hy
    · rename_i hn
      by_cases e : i = k
      · subst e; rw [hy] at hz; cases hz; simpa using hn
      · have h1 := hs i k y z (by omega) hy hz
        have h2 : dtLt x z = false := by simpa using hn
        cases h3 : dtLt x y with
        | false => rfl
        | true =>
          rcases dtLt_split z h3 with h4 | h4
          · rw [h4] at h2; cases h2
          · rw [h4] at h1; cases h1
theorem insD_perm (L : List Dt) (x : Dt) : (insD L x).Perm (L ++ [x]) := by
  unfold insD
  have h1 : (L.take (atD x L L.length) ++ x :: L.drop (atD x L L.length)).Perm (x :: (L.take (atD x L L.length) ++ L.drop (atD x L L.length))) := List.perm_middle
  rw [List.take_append_drop] at h1
  exact h1.trans (List.perm_append_singleton x L).symm
theorem insD_sorted {L : List Dt} (x : Dt) (hs : SortedD L) : SortedD (insD L x) := by
  have hp := hs.pair
  suffices h : (insD L x).Pairwise fun a b => dtLt b a = false by
    intro i j a b hij ha hb
    rw [List.pairwise_iff_getElem] at h
    obtain ⟨h1, rfl⟩ := List.getElem?_eq_some_iff.1 ha
    obtain ⟨h2, rfl⟩ := List.getElem?_eq_some_iff.1 hb
    exact h i j h1 h2 hij
  unfold insD
  generalize hk : atD x L L.length = k
  have hkl : k ≤ L.length := by rw [← hk]; exact atD_le _ _ _
  have hb : ∀ y ∈ L.take k, dtLt x y = false := fun y hy => by
    obtain ⟨i, hi⟩ := List.getElem?_of_mem hy
    have hik : i < k := by have := (List.getElem?_eq_some_iff.1 hi).1; simp at this; omega
    rw [List.getElem?_take_of_lt hik] at hi
    exact atD_before x L hs L.length (Nat.le_refl _) i y (by rw [hk]; exact hik) hi
  have ha : ∀ y ∈ L.drop k, dtLt x y = true := fun y hy => by
    obtain ⟨i, hi⟩ := List.getElem?_of_mem hy
    rw [List.getElem?_drop] at hi
    exact atD_after x L L.length (Nat.le_refl _) (k + i) y (by omega) (List.getElem?_eq_some_iff.1 hi).1 hi
  rw [List.pairwise_append]
  refine ⟨hp.sublist (List.take_sublist _ _), ?_, ?_⟩
  · rw [List.pairwise_cons]
    refine ⟨fun y hy => ?_, hp.sublist (List.drop_sublist _ _)⟩
    cases h3 : dtLt y x with
    | false => rfl
    | true => have := dtLt_trans h3 (ha y hy); rw [dtLt_irrefl] at this; cases this
  · intro a h1 b h2
    rcases List.mem_cons.1 h2 with rfl | h2
    · exact hb a h1
    · have h3 : (L.take k ++ L.drop k).Pairwise fun a b => dtLt b a = false := by rw [List.take_append_drop]; exact hp
      exact (List.pairwise_append.1 h3).2.2 a h1 b h2
def insAll (M L : List Dt) : List Dt := L.foldl insD M
theorem insAll_app (M L L' : List Dt) : insAll M (L ++ L') = insAll (insAll M L) L' := List.foldl_append
theorem insAll_perm : ∀ (L M : List Dt), (insAll M L).Perm (M ++ L)
  | [], M => by simp [insAll]
  | x :: L, M => by
    have h := insAll_perm L (insD M x)
    have h2 : (insAll M (x :: L)) = insAll (insD M x) L := rfl
    rw [h2]
    refine h.trans ?_
    have h3 := (insD_perm M x).append_right L
    rw [List.append_assoc] at h3
    exact h3
theorem insAll_sorted : ∀ (L M : List Dt), SortedD M → SortedD (insAll M L)
  | [], M, h => h
  | x :: L, M, h => insAll_sorted L (insD M x) (insD_sorted x h)
theorem insAll_len (M L : List Dt) : (insAll M L).length = M.length + L.length := by
  rw [(insAll_perm L M).length_eq, List.length_append]

end Go.Proofs.YtldillnjnjkkgaaGreatDoor

/- Walks of slices.IndexFunc over legs on a day, and of covered. -/
namespace Go.Proofs.YtldillnjnjkkgaaGreatDoor
open Go.RowKit Go.Shelf
set_option linter.unusedSimpArgs false
set_option linter.unusedVariables false

/-- R are the legs from the first that departs at fr on, up to the first of them that arrives at tt; none if there is none -/
def CovR (L : List Dt) (fr tt : ByteArray) (R : List Dt) : Prop :=
  (R = [] ∧ ((∀ x ∈ L, (x.f.toList == fr.toList) = false) ∨ ∃ (i : Nat) (a : Dt), L[i]? = some a ∧ (a.f.toList == fr.toList) = true ∧ (∀ (j : Nat) (z : Dt), j < i → L[j]? = some z → (z.f.toList == fr.toList) = false) ∧ ∀ x ∈ L.drop i, (x.t.toList == tt.toList) = false))
  ∨ ∃ (i k : Nat) (a y : Dt), L[i]? = some a ∧ (a.f.toList == fr.toList) = true ∧ (∀ (j : Nat) (z : Dt), j < i → L[j]? = some z → (z.f.toList == fr.toList) = false) ∧ (L.drop i)[k]? = some y ∧ (y.t.toList == tt.toList) = true ∧ (∀ (j : Nat) (z : Dt), j < k → (L.drop i)[j]? = some z → (z.t.toList == tt.toList) = false) ∧ R = (L.drop i).take (k + 1)

end Go.Proofs.YtldillnjnjkkgaaGreatDoor

/- Walk of covered. -/
namespace Go.Proofs.YtldillnjnjkkgaaGreatDoor
open Go.RowKit Go.Shelf
set_option linter.unusedSimpArgs false
set_option linter.unusedVariables false

theorem RowL.dropL {w : World} {b o c n i m c' : Nat} {L : List Dt} (h : RowL 8 encDt w (.slice (some ⟨b, o, none⟩) n c) L) (hi : i < L.length) (hm : m = (L.drop i).length) : RowL 8 encDt w (.slice (some ⟨b, o + i * 8, none⟩) m c') (L.drop i) := by
  subst hm
  refine ⟨_, c', rfl, .inr ⟨b, o + i * 8, rfl, ?_, fun k y j u hk hu => ?_⟩⟩
  · obtain ⟨b', o', e, hb, _⟩ := RowL.at8 h (List.getElem?_eq_getElem hi)
    cases e
    exact hb
  · exact RowL.dropAt h i hk j u hu
theorem RowL.takeL {w : World} {b o c n m c' : Nat} {L : List Dt} (h : RowL 8 encDt w (.slice (some ⟨b, o, none⟩) n c) L) (k : Nat) (hk : m = (L.take k).length) : RowL 8 encDt w (.slice (some ⟨b, o, none⟩) m c') (L.take k) := by
  subst hk
  obtain ⟨A, c1, e, h⟩ := h
  cases e
  refine ⟨_, c', rfl, ?_⟩
  rcases h with h | ⟨b', o', e, hlt, hc⟩
  · exact .inl (by simp [h])
  · cases e
    refine .inr ⟨b, o, rfl, hlt, fun i x j u hi hu => hc i x j u ?_ hu⟩
    rw [List.getElem?_take] at hi
    split at hi
    · exact hi
    · cases hi

end Go.Proofs.YtldillnjnjkkgaaGreatDoor

/- Walk of flight.Path. -/
namespace Go.Proofs.YtldillnjnjkkgaaGreatDoor
open Go.RowKit Go.Shelf
set_option linter.unusedSimpArgs false
set_option linter.unusedVariables false

/-- the name of a leg on a day -/
structure Idd where
  car : ByteArray
  num : Int
  day : Int
  f : ByteArray
def encI (d : Idd) : List Value := [.string d.car, .int .i64 d.num, .int .i64 d.day, .string d.f]
theorem CovR.len {L : List Dt} {fr tt : ByteArray} {R : List Dt} (h : CovR L fr tt R) : R.length ≤ L.length := by
  rcases h with ⟨h, _⟩ | ⟨i, k, a, y, _, _, _, _, _, _, h⟩
  · rw [h]; simp
  · rw [h, List.length_take, List.length_drop]; omega
def PathPost (PR : Int → List Idd → Prop) (w w' : World) (e : Ending) : Prop := ∃ v er I, e = .returned (.tuple #[v, .int .i64 er]) ∧ RowL 4 encI w' v I ∧ Hid (PR er I) ∧ Below w.heap.size w w'
theorem PathPost.mk {PR : Int → List Idd → Prop} {w w' : World} {e : Ending} (v : Value) (er : Int) (I : List Idd) (he : e = .returned (.tuple #[v, .int .i64 er])) (h1 : RowL 4 encI w' v I) (h2 : Hid (PR er I)) (h3 : Below w.heap.size w w') : PathPost PR w w' e := ⟨v, er, I, he, h1, h2, h3⟩
end Go.Proofs.YtldillnjnjkkgaaGreatDoor

/- Walks of the reference's before and insert. -/
namespace Go.Proofs.YtldillnjnjkkgaaGreatDoor
open Go.RowKit Go.Shelf
set_option linter.unusedSimpArgs false
set_option linter.unusedVariables false

set_option maxRecDepth 100000 in
set_option maxHeartbeats 4000000 in
theorem rbefore_any (x y : Dt) (w : World) : Calls Tryz.prog 174 #[.agg #[.string x.car, .int .i64 x.num, .int .i64 x.day, .string x.f, .string x.t, .int .i64 x.dep, .int .i64 x.arr, .string x.eq], .agg #[.string y.car, .int .i64 y.num, .int .i64 y.day, .string y.f, .string y.t, .int .i64 y.dep, .int .i64 y.arr, .string y.eq]] w fun e w' => e = .returned (.bool (dtLt x y)) ∧ Below w.heap.size w w' := by
  have hb1 := bel_alloc w (.cells #[.string x.car, .int .i64 x.num, .int .i64 x.day, .string x.f, .string x.t, .int .i64 x.dep, .int .i64 x.arr, .string x.eq] datT)
  have hb2 := bel_alloc (w.alloc (.cells #[.string x.car, .int .i64 x.num, .int .i64 x.day, .string x.f, .string x.t, .int .i64 x.dep, .int .i64 x.arr, .string x.eq] datT)) (.cells #[.string y.car, .int .i64 y.num, .int .i64 y.day, .string y.f, .string y.t, .int .i64 y.dep, .int .i64 y.arr, .string y.eq] datT)
  have hb0 := hb1.trans (hb2.mono hb1.size)
  have p0 := bel_cell hb2 ((cells_new w #[.string x.car, .int .i64 x.num, .int .i64 x.day, .string x.f, .string x.t, .int .i64 x.dep, .int .i64 x.arr, .string x.eq] datT 0).trans (show _ = some (Value.string x.car) from rfl))
  have q0 := (cells_new (w.alloc (.cells #[.string x.car, .int .i64 x.num, .int .i64 x.day, .string x.f, .string x.t, .int .i64 x.dep, .int .i64 x.arr, .string x.eq] datT)) #[.string y.car, .int .i64 y.num, .int .i64 y.day, .string y.f, .string y.t, .int .i64 y.dep, .int .i64 y.arr, .string y.eq] datT 0).trans (show _ = some (Value.string y.car) from rfl)
  have p1 := bel_cell hb2 ((cells_new w #[.string x.car, .int .i64 x.num, .int .i64 x.day, .string x.f, .string x.t, .int .i64 x.dep, .int .i64 x.arr, .string x.eq] datT 1).trans (show _ = some (Value.int .i64 x.num) from rfl))
  have q1 := (cells_new (w.alloc (.cells #[.string x.car, .int .i64 x.num, .int .i64 x.day, .string x.f, .string x.t, .int .i64 x.dep, .int .i64 x.arr, .string x.eq] datT)) #[.string y.car, .int .i64 y.num, .int .i64 y.day, .string y.f, .string y.t, .int .i64 y.dep, .int .i64 y.arr, .string y.eq] datT 1).trans (show _ = some (Value.int .i64 y.num) from rfl)
  have p5 := bel_cell hb2 ((cells_new w #[.string x.car, .int .i64 x.num, .int .i64 x.day, .string x.f, .string x.t, .int .i64 x.dep, .int .i64 x.arr, .string x.eq] datT 5).trans (show _ = some (Value.int .i64 x.dep) from rfl))
  have q5 := (cells_new (w.alloc (.cells #[.string x.car, .int .i64 x.num, .int .i64 x.day, .string x.f, .string x.t, .int .i64 x.dep, .int .i64 x.arr, .string x.eq] datT)) #[.string y.car, .int .i64 y.num, .int .i64 y.day, .string y.f, .string y.t, .int .i64 y.dep, .int .i64 y.arr, .string y.eq] datT 5).trans (show _ = some (Value.int .i64 y.dep) from rfl)
  rw [World.size_alloc] at q0 q1 q5
  have HR0 : Hid (dtLt x y = (decide (x.dep < y.dep) || (decide (x.dep = y.dep) && (Op.bytesLess x.car.toList y.car.toList || (decide (x.car = y.car) && decide (x.num < y.num)))))) := Lib.hid rfl
  have HB0 := Lib.hid hb0
  clear hb1 hb2 hb0
  go_enter Tryz.func174, Tryz.ntmps174
  go_upto_region 1 with fail
  generalize hw5 : (w.alloc (.cells #[.string x.car, .int .i64 x.num, .int .i64 x.day, .string x.f, .string x.t, .int .i64 x.dep, .int .i64 x.arr, .string x.eq] datT)).alloc (.cells #[.string y.car, .int .i64 y.num, .int .i64 y.day, .string y.f, .string y.t, .int .i64 y.dep, .int .i64 y.arr, .string y.eq] datT) = w5 at *
  clear hw5
  cases h1 : (x.dep != y.dep) with
  | true =>
    have hne : x.dep ≠ y.dep := by simpa using h1
    have HR : Hid (decide (x.dep < y.dep) = dtLt x y) := Lib.hid (by rw [HR0.out, decide_eq_false hne]; simp)
    clear hne
    go_wp2
    go_ret
    exact ⟨ret_bool HR.out, HB0.out⟩
  | false =>
  have heq : x.dep = y.dep := by simpa using h1
  have HR1 : Hid (dtLt x y = (Op.bytesLess x.car.toList y.car.toList || (decide (x.car = y.car) && decide (x.num < y.num)))) := Lib.hid (by rw [HR0.out, heq]; simp)
  clear heq
  cases h2 : (x.car.toList == y.car.toList) with
  | false =>
    have HR : Hid (Op.bytesLess x.car.toList y.car.toList = dtLt x y) := Lib.hid (by rw [HR1.out, ← car_eq, h2]; simp)
    go_wp2
    go_ret
    exact ⟨ret_bool HR.out, HB0.out⟩
  | true =>
    have HR : Hid (decide (x.num < y.num) = dtLt x y) := Lib.hid (by
      have e : x.car = y.car := by rw [car_eq] at h2; simpa using h2
      have e2 : Op.bytesLess x.car.toList y.car.toList = false := by rw [e]; simpa [LessT] using lessT_irrefl y.car
      rw [HR1.out, e2, e]; simp)
    go_wp2
    go_ret
    exact ⟨ret_bool HR.out, HB0.out⟩
set_option maxRecDepth 100000 in
set_option maxHeartbeats 8000000 in
theorem rinsert_any (v : Value) (l : List Dt) (x : Dt) (B : Nat) (w : World) (hv : ROwn datT 8 encDt B w v l) (h0 : l = [] → v = .slice none 0 0) (hl : l.length ≤ 10000) :
    Calls Tryz.prog 94 #[v, .agg #[.string x.car, .int .i64 x.num, .int .i64 x.day, .string x.f, .string x.t, .int .i64 x.dep, .int .i64 x.arr, .string x.eq]] w fun e w' => ∃ r, e = .returned r ∧ ROwn datT 8 encDt w.heap.size w' r (insD l x) ∧ Below w.heap.size w w' := by
  have hb0 := bel_alloc w (.cells #[.string x.car, .int .i64 x.num, .int .i64 x.day, .string x.f, .string x.t, .int .i64 x.dep, .int .i64 x.arr, .string x.eq] datT)
  have p0 := (cells_new w #[.string x.car, .int .i64 x.num, .int .i64 x.day, .string x.f, .string x.t, .int .i64 x.dep, .int .i64 x.arr, .string x.eq] datT 0).trans (show _ = some (Value.string x.car) from rfl)
  have p1 := (cells_new w #[.string x.car, .int .i64 x.num, .int .i64 x.day, .string x.f, .string x.t, .int .i64 x.dep, .int .i64 x.arr, .string x.eq] datT 1).trans (show _ = some (Value.int .i64 x.num) from rfl)
  have p2 := (cells_new w #[.string x.car, .int .i64 x.num, .int .i64 x.day, .string x.f, .string x.t, .int .i64 x.dep, .int .i64 x.arr, .string x.eq] datT 2).trans (show _ = some (Value.int .i64 x.day) from rfl)
  have p3 := (cells_new w #[.string x.car, .int .i64 x.num, .int .i64 x.day, .string x.f, .string x.t, .int .i64 x.dep, .int .i64 x.arr, .string x.eq] datT 3).trans (show _ = some (Value.string x.f) from rfl)
  have p4 := (cells_new w #[.string x.car, .int .i64 x.num, .int .i64 x.day, .string x.f, .string x.t, .int .i64 x.dep, .int .i64 x.arr, .string x.eq] datT 4).trans (show _ = some (Value.string x.t) from rfl)
  have p5 := (cells_new w #[.string x.car, .int .i64 x.num, .int .i64 x.day, .string x.f, .string x.t, .int .i64 x.dep, .int .i64 x.arr, .string x.eq] datT 5).trans (show _ = some (Value.int .i64 x.dep) from rfl)
  have p6 := (cells_new w #[.string x.car, .int .i64 x.num, .int .i64 x.day, .string x.f, .string x.t, .int .i64 x.dep, .int .i64 x.arr, .string x.eq] datT 6).trans (show _ = some (Value.int .i64 x.arr) from rfl)
  have p7 := (cells_new w #[.string x.car, .int .i64 x.num, .int .i64 x.day, .string x.f, .string x.t, .int .i64 x.dep, .int .i64 x.arr, .string x.eq] datT 7).trans (show _ = some (Value.string x.eq) from rfl)
  have HB0 := Lib.hid hb0
  have HV := Lib.hid (hv.more hb0)
  by_cases hne : l = []
  · obtain rfl := h0 hne
    subst hne
    clear hv h0 hl hb0
    have HN : Hid (ROwn datT 8 encDt w.heap.size (w.alloc (.cells #[.string x.car, .int .i64 x.num, .int .i64 x.day, .string x.f, .string x.t, .int .i64 x.dep, .int .i64 x.arr, .string x.eq] datT)) (.slice none 0 0) []) := Lib.hid (ROwn.nil (by simp))
    have HL0 : Hid (RowL 8 encDt (w.alloc (.cells #[.string x.car, .int .i64 x.num, .int .i64 x.day, .string x.f, .string x.t, .int .i64 x.dep, .int .i64 x.arr, .string x.eq] datT)) (.slice none 0 0) []) := Lib.hid ⟨none, 0, rfl, .inl rfl⟩
    have HA2 : Hid (atD x ([] : List Dt) ([] : List Dt).length = 0) := Lib.hid rfl
    have HB5 : Hid (w.heap.size ≤ (w.alloc (.cells #[.string x.car, .int .i64 x.num, .int .i64 x.day, .string x.f, .string x.t, .int .i64 x.dep, .int .i64 x.arr, .string x.eq] datT)).heap.size) := Lib.hid HB0.out.size
    go_enter Tryz.func94, Tryz.ntmps94
    go_upto_region 1 with fail
    generalize hw5 : w.alloc (.cells #[.string x.car, .int .i64 x.num, .int .i64 x.day, .string x.f, .string x.t, .int .i64 x.dep, .int .i64 x.arr, .string x.eq] datT) = w5 at *
    clear hw5
    have f0 := bel_get p0
    have f1 := bel_get p1
    have f2 := bel_get p2
    have f3 := bel_get p3
    have f4 := bel_get p4
    have f5 := bel_get p5
    have f6 := bel_get p6
    have f7 := bel_get p7
    clear p0 p1 p2 p3 p4 p5 p6 p7
    go_wp2
    go_loopw [5] (fun va wr => va = .int .i64 0 ∧ SW w5 wr) (fun _ _ => 0)
    case atStart => exact ⟨rfl, Below.refl _ _⟩
    case round =>
      obtain ⟨rfl, hS⟩ := hrel
      go_wp2
      have hNe : Nonempty (Wd (SW wr)) := ⟨⟨_, SW.drew _⟩⟩
      refine quietS (S := SW wr) (by kernel_rfl) (by kernel_rfl) (SW.drew _) ?_
      repeat (first | go_big_quiet_skip | (go_big_quiet_want; go_big_quiet_op; first | go_big_quiet_on | go_big_quiet_call ((fail))))
      refine wpQuiet_nil ?_
      rintro W ⟨⟨_, hW⟩, rfl⟩
      have hS7 : SW w5 W := Below.trans hS (Below.mono hW hS.size)
      clear hW hS
      have hN7 : ROwn datT 8 encDt w.heap.size W (.slice none 0 0) [] := ROwn.nil (Nat.le_trans HB5.out hS7.size)
      have HS7 := Lib.hid hS7
      have hT : RowL 8 encDt W (.slice none 0 0) [] := ⟨none, 0, rfl, .inl rfl⟩
      clear hS7
      have hlA : ([] : List Dt).length + ([] : List Dt).length ≤ 100000000 := by simp <;> omega
      go_upto_region 6 with (at_builtin; refine wpList_rappl rtD rfl _ _ rfl hN7 rfl ([] : List Dt) _ rfl hT hlA ?_; intro v8 w8 hO8 hC8)
      have hb78 := hC8.but.below (Nat.le_refl _) (fun q hq hv => by cases hv)
      have hS8 : SW w5 w8 := Below.trans HS7.out (Below.mono hb78 HS7.out.size)
      have HS8 := Lib.hid hS8
      have k0 := f0 _ hS8
      have k1 := f1 _ hS8
      have k2 := f2 _ hS8
      have k3 := f3 _ hS8
      have k4 := f4 _ hS8
      have k5 := f5 _ hS8
      have k6 := f6 _ hS8
      have k7 := f7 _ hS8
      have hlB : ([] ++ ([] : List Dt) : List Dt).length ≤ 100000000 := by simp <;> omega
      clear hS8 hb78 hN7 hT
      go_upto_region 7 with (at_builtin; refine wpList_rapp rtD rfl _ _ rfl hO8 rfl (bel_alloc _ _) _ x _ rfl (cs := #[.string x.car, .int .i64 x.num, .int .i64 x.day, .string x.f, .string x.t, .int .i64 x.dep, .int .i64 x.arr, .string x.eq]) rfl (heap_alloc_new _ _) hlB ?_; intro v9 w9 hO9 hC9)
      clear k0 k1 k2 k3 k4 k5 k6 k7
      have hb89 : Below w5.heap.size w8 w9 := hC9.but.below HS8.out.size (fun q hq hv => by
        rcases hC8.own q hv with h | h
        · cases h
        · have := HS7.out.size; omega)
      have hS9 : SW w5 w9 := Below.trans HS8.out hb89
      have HS9 := Lib.hid hS9
      have hD : RowL 8 encDt w9 (.slice none 0 0) [] := ⟨none, 0, rfl, .inl rfl⟩
      have HI2 : Hid (insD [] x = [] ++ ([] : List Dt) ++ [x] ++ ([] : List Dt)) := Lib.hid (by
        unfold insD
        rw [HA2.out]
        simp)
      have hlC : ([] ++ ([] : List Dt) ++ [x] : List Dt).length + ([] : List Dt).length ≤ 100000000 := by simp <;> omega
      clear hS9 hb89 hO8 hC8 hC9
      go_wp2_with (at_builtin; refine wpList_rappl rtD rfl _ _ rfl hO9 rfl ([] : List Dt) _ rfl hD hlC ?_; intro v10 w10 hO10 hC10)
      all_goals go_ret
      all_goals exact ⟨_, rfl, by rw [HI2.out]; exact hO10, HB0.out.trans ((Below.mono HS9.out HB5.out).trans (hC10.below hO9))⟩
  · obtain ⟨g, cap, rfl, hBg, hgs⟩ := hv.formG hne
    have hcap : l.length ≤ cap := hv.cap
    have hvl := hv.rowL rtD.len
    have HV := Lib.hid (hvl.more hb0)
    have HB5 : Hid (w.heap.size ≤ (w.alloc (.cells #[.string x.car, .int .i64 x.num, .int .i64 x.day, .string x.f, .string x.t, .int .i64 x.dep, .int .i64 x.arr, .string x.eq] datT)).heap.size) := Lib.hid hb0.size
    have KB := Lib.hid (fun y W => rbefore_any x y W)
    clear hv h0 hvl hb0
    go_enter Tryz.func94, Tryz.ntmps94
    go_upto_region 1 with fail
    generalize hw5 : w.alloc (.cells #[.string x.car, .int .i64 x.num, .int .i64 x.day, .string x.f, .string x.t, .int .i64 x.dep, .int .i64 x.arr, .string x.eq] datT) = w5 at *
    clear hw5
    have f0 := bel_get p0
    have f1 := bel_get p1
    have f2 := bel_get p2
    have f3 := bel_get p3
    have f4 := bel_get p4
    have f5 := bel_get p5
    have f6 := bel_get p6
    have f7 := bel_get p7
    clear p0 p1 p2 p3 p4 p5 p6 p7
    have HA0 : Hid (atD x l l.length = atD x l l.length) := Lib.hid rfl
    go_wp2
    go_loopw [5] (fun va wr => ∃ k : Nat, k ≤ l.length ∧ va = .int .i64 k ∧ Hid (atD x l l.length = atD x l k) ∧ SW w5 wr) (fun va _ => (intOf va).toNat)
    case atStart => exact ⟨l.length, Nat.le_refl _, rfl, Lib.hid (by first | rfl | trivial), Below.refl _ _⟩
    case round =>
      obtain ⟨k, hk, rfl, HA, hS⟩ := hrel
      by_cases hk0 : k = 0
      · have HA2 : Hid (atD x l l.length = k) := Lib.hid (by rw [HA.out, hk0]; rfl)
        have i0 : decide ((0 : Int) < (k : Int)) = false := decide_eq_false (by omega)
        have i1 : ¬ (0 : Int) < (k : Int) := by omega
        have i2 : decide (0 < k) = false := decide_eq_false (by omega)
        have i3 : ¬ 0 < k := by omega
        clear hk0 HA
        go_wp2
        have hNe : Nonempty (Wd (SW wr)) := ⟨⟨_, SW.drew _⟩⟩
        refine quietS (S := SW wr) (by kernel_rfl) (by kernel_rfl) (SW.drew _) ?_
        repeat (first | go_big_quiet_skip | (go_big_quiet_want; go_big_quiet_op; first | go_big_quiet_on | go_big_quiet_call ((fail))))
        refine wpQuiet_nil ?_
        rintro W ⟨⟨_, hW⟩, rfl⟩
        have hS7 : SW w5 W := Below.trans hS (Below.mono hW hS.size)
        clear hW hS
        have hN7 : ROwn datT 8 encDt w.heap.size W (.slice none 0 0) [] := ROwn.nil (Nat.le_trans HB5.out hS7.size)
        have HS7 := Lib.hid hS7
        have hT : RowL 8 encDt W (.slice (some ⟨g, 0, none⟩) k cap) (l.take k) := RowL.takeL (HV.out.more hS7) k (by simp; omega)
        have hkl : (k : Int) ≤ (l.length : Int) := by omega
        have hkc : (k : Int) ≤ (cap : Int) := by omega
        have hlc : (l.length : Int) ≤ (cap : Int) := by omega
        clear hS7
        have hlA : ([] : List Dt).length + (l.take k).length ≤ 100000000 := by simp <;> omega
        go_upto_region 6 with (at_builtin; refine wpList_rappl rtD rfl _ _ rfl hN7 rfl (l.take k) _ rfl hT hlA ?_; intro v8 w8 hO8 hC8)
        have hb78 := hC8.but.below (Nat.le_refl _) (fun q hq hv => by cases hv)
        have hS8 : SW w5 w8 := Below.trans HS7.out (Below.mono hb78 HS7.out.size)
        have HS8 := Lib.hid hS8
        have k0 := f0 _ hS8
        have k1 := f1 _ hS8
        have k2 := f2 _ hS8
        have k3 := f3 _ hS8
        have k4 := f4 _ hS8
        have k5 := f5 _ hS8
        have k6 := f6 _ hS8
        have k7 := f7 _ hS8
        have hlB : ([] ++ (l.take k) : List Dt).length ≤ 100000000 := by simp <;> omega
        clear hS8 hb78 hN7 hT
        go_upto_region 7 with (at_builtin; refine wpList_rapp rtD rfl _ _ rfl hO8 rfl (bel_alloc _ _) _ x _ rfl (cs := #[.string x.car, .int .i64 x.num, .int .i64 x.day, .string x.f, .string x.t, .int .i64 x.dep, .int .i64 x.arr, .string x.eq]) rfl (heap_alloc_new _ _) hlB ?_; intro v9 w9 hO9 hC9)
        clear k0 k1 k2 k3 k4 k5 k6 k7
        have hb89 : Below w5.heap.size w8 w9 := hC9.but.below HS8.out.size (fun q hq hv => by
          rcases hC8.own q hv with h | h
          · cases h
          · have := HS7.out.size; omega)
        have hS9 : SW w5 w9 := Below.trans HS8.out hb89
        have HS9 := Lib.hid hS9
        have hD : RowL 8 encDt w9 (.slice (if cap = k then some ⟨g, 0, none⟩ else some ⟨g, k * 8, none⟩) (l.length - k) (cap - k)) (l.drop k) := by
          by_cases e : k < l.length
          · have := RowL.dropL (m := l.length - k) (c' := cap - k) (HV.out.more hS9) e (by simp)
            rw [if_neg (by omega)]
            rwa [Nat.zero_add] at this
          · have h0 : l.drop k = [] := List.drop_eq_nil_of_le (by omega)
            rw [h0, show l.length - k = 0 from by omega]
            exact ⟨_, _, rfl, .inl rfl⟩
        have HI2 : Hid (insD l x = [] ++ (l.take k) ++ [x] ++ (l.drop k)) := Lib.hid (by
          unfold insD
          rw [HA2.out]
          simp)
        have hlC : ([] ++ (l.take k) ++ [x] : List Dt).length + (l.drop k).length ≤ 100000000 := by simp <;> omega
        clear hS9 hb89 hO8 hC8 hC9
        go_wp2_with (at_builtin; refine wpList_rappl rtD rfl _ _ rfl hO9 rfl (l.drop k) _ rfl hD hlC ?_; intro v10 w10 hO10 hC10)
        all_goals go_ret
        all_goals exact ⟨_, rfl, by rw [HI2.out]; exact hO10, HB0.out.trans ((Below.mono HS9.out HB5.out).trans (hC10.below hO9))⟩
      · obtain ⟨j, hj⟩ : ∃ j, k = j + 1 := ⟨k - 1, by omega⟩
        have hjl : j < l.length := by omega
        obtain ⟨y, hy⟩ : ∃ y, l[j]? = some y := ⟨_, List.getElem?_eq_getElem hjl⟩
        have i0 : decide ((0 : Int) < (k : Int)) = true := decide_eq_true (by omega)
        have i2 : decide (0 < k) = true := decide_eq_true (by omega)
        have e1 : (k : Int) - 1 = (j : Int) := by omega
        have e3 : IntKind.i64.wrap (j : Int) = (j : Int) := by rw [IntKind.wrap_i64]; omega
        have HSt : Hid (atD x l k = if dtLt x y then atD x l j else k) := Lib.hid (by rw [hj]; exact atD_step hy)
        obtain ⟨b, o, e2, hbl, hc⟩ := RowL.at8 (HV.out.more hS) hy
        cases e2
        have c0 := bel_get (hc 0 _ rfl)
        have c1 := bel_get (hc 1 _ rfl)
        have c2 := bel_get (hc 2 _ rfl)
        have c3 := bel_get (hc 3 _ rfl)
        have c4 := bel_get (hc 4 _ rfl)
        have c5 := bel_get (hc 5 _ rfl)
        have c6 := bel_get (hc 6 _ rfl)
        have c7 := bel_get (hc 7 _ rfl)
        rw [Nat.add_zero] at c0
        simp only [Nat.zero_add] at c0 c1 c2 c3 c4 c5 c6 c7
        have HJ := Lib.hid hj
        have KBy : Hid (∀ W, SW wr W → Calls Tryz.prog 174 #[.agg #[.string x.car, .int .i64 x.num, .int .i64 x.day, .string x.f, .string x.t, .int .i64 x.dep, .int .i64 x.arr, .string x.eq], .agg #[.string y.car, .int .i64 y.num, .int .i64 y.day, .string y.f, .string y.t, .int .i64 y.dep, .int .i64 y.arr, .string y.eq]] W fun e w' => e = .returned (.bool (dtLt x y)) ∧ SW wr w') := Lib.hid (SW.call (fun W h => KB.out y W))
        have HFX : Hid (∀ W, SW wr W → SW w5 W) := Lib.hid (fun W h => Below.trans hS (Below.mono h hS.size))
        clear hc hy hbl hj hk0
        have g0 := fun W (h : SW wr W) => f0 W (HFX.out W h)
        have g1 := fun W (h : SW wr W) => f1 W (HFX.out W h)
        have g2 := fun W (h : SW wr W) => f2 W (HFX.out W h)
        have g3 := fun W (h : SW wr W) => f3 W (HFX.out W h)
        have g4 := fun W (h : SW wr W) => f4 W (HFX.out W h)
        have g5 := fun W (h : SW wr W) => f5 W (HFX.out W h)
        have g6 := fun W (h : SW wr W) => f6 W (HFX.out W h)
        have g7 := fun W (h : SW wr W) => f7 W (HFX.out W h)
        have hjz : (j : Int) < (l.length : Int) := by omega
        cases hb : dtLt x y with
        | true =>
          have HN : Hid (atD x l l.length = atD x l j) := Lib.hid (by rw [HA.out, HSt.out, if_pos hb])
          rw [hb] at KBy
          clear hb
          have HSr := Lib.hid hS
          clear hS
          go_upto_region 2 with fail
          have hS : (SW wr) _ := SW.drew _
          refine wp_region_held_drew (S := SW wr) (by kernel_rfl) hS (fun _ => ?_)
          refine wpAnyH_take (i := 0) (v := ?vI0) rfl (by kernel_rfl) (by kernel_rfl) (by kernel_rfl) (fun _ _ _ h => h) (Or.inl ⟨by rfl, ?hyI0⟩) hS ?restI0
          case hyI0 =>
            intro w hSw
            first | (go_simp; done) | (go_simp; with_reducible rfl)
          try simp only [Act.put, List.setIfInBounds_toArray, List.set_cons_zero, List.set_cons_succ]
          refine wpAnyH_take (i := 1) (v := ?vI1) rfl (by kernel_rfl) (by kernel_rfl) (by kernel_rfl) (fun _ _ _ h => h) (Or.inl ⟨by rfl, ?hyI1⟩) hS ?restI1
          case hyI1 =>
            intro w hSw
            first | (go_simp; done) | (go_simp; with_reducible rfl)
          try simp only [Act.put, List.setIfInBounds_toArray, List.set_cons_zero, List.set_cons_succ]
          refine wpAnyH_take (i := 2) (v := ?vI2) rfl (by kernel_rfl) (by kernel_rfl) (by kernel_rfl) (fun _ _ _ h => h) (Or.inl ⟨by rfl, ?hyI2⟩) hS ?restI2
          case hyI2 =>
            intro w hSw
            first | (go_simp; done) | (go_simp; with_reducible rfl)
          try simp only [Act.put, List.setIfInBounds_toArray, List.set_cons_zero, List.set_cons_succ]
          refine wpAnyH_take (i := 3) (v := ?vI3) rfl (by kernel_rfl) (by kernel_rfl) (by kernel_rfl) (fun _ _ _ h => h) (Or.inl ⟨by kernel_rfl, ?hyI3⟩) hS ?restI3
          case hyI3 =>
            intro w hSw
            have k0 := g0 w hSw; have k1 := g1 w hSw; have k2 := g2 w hSw; have k3 := g3 w hSw; have k4 := g4 w hSw; have k5 := g5 w hSw; have k6 := g6 w hSw; have k7 := g7 w hSw; have k8 := c0 w hSw; have k9 := c1 w hSw; have k10 := c2 w hSw; have k11 := c3 w hSw; have k12 := c4 w hSw; have k13 := c5 w hSw; have k14 := c6 w hSw; have k15 := c7 w hSw
            first | (go_simp; done) | (go_simp; with_reducible rfl)
          try simp only [Act.put, List.setIfInBounds_toArray, List.set_cons_zero, List.set_cons_succ]
          refine wpAnyH_take (i := 4) (v := ?vI4) rfl (by kernel_rfl) (by kernel_rfl) (by kernel_rfl) (fun _ _ _ h => h) (Or.inl ⟨by kernel_rfl, ?hyI4⟩) hS ?restI4
          case hyI4 =>
            intro w hSw
            first | (go_simp; done) | (go_simp; with_reducible rfl)
          try simp only [Act.put, List.setIfInBounds_toArray, List.set_cons_zero, List.set_cons_succ]
          refine wpAnyH_take (i := 5) (v := ?vI5) rfl (by kernel_rfl) (by kernel_rfl) (by kernel_rfl) (fun _ _ _ h => h) (Or.inl ⟨by kernel_rfl, ?hyI5⟩) hS ?restI5
          case hyI5 =>
            intro w hSw
            first | (go_simp; done) | (go_simp; with_reducible rfl)
          try simp only [Act.put, List.setIfInBounds_toArray, List.set_cons_zero, List.set_cons_succ]
          refine wpAnyH_take (i := 6) (v := ?vI6) rfl (by kernel_rfl) (by kernel_rfl) (by kernel_rfl) (fun _ _ _ h => h) (Or.inl ⟨by kernel_rfl, ?hyI6⟩) hS ?restI6
          case hyI6 =>
            intro w hSw
            first | (go_simp; done) | (go_simp; with_reducible rfl)
          try simp only [Act.put, List.setIfInBounds_toArray, List.set_cons_zero, List.set_cons_succ]
          refine wpAnyH_take (i := 7) (v := ?vI7) rfl (by kernel_rfl) (by kernel_rfl) (by kernel_rfl) (fun _ _ _ h => h) (Or.inl ⟨by kernel_rfl, ?hyI7⟩) hS ?restI7
          case hyI7 =>
            intro w hSw
            have k0 := g0 w hSw; have k1 := g1 w hSw; have k2 := g2 w hSw; have k3 := g3 w hSw; have k4 := g4 w hSw; have k5 := g5 w hSw; have k6 := g6 w hSw; have k7 := g7 w hSw; have k8 := c0 w hSw; have k9 := c1 w hSw; have k10 := c2 w hSw; have k11 := c3 w hSw; have k12 := c4 w hSw; have k13 := c5 w hSw; have k14 := c6 w hSw; have k15 := c7 w hSw
            first | (go_simp; done) | (go_simp; with_reducible rfl)
          try simp only [Act.put, List.setIfInBounds_toArray, List.set_cons_zero, List.set_cons_succ]
          refine wpAnyH_take (i := 8) (v := ?vI8) rfl (by kernel_rfl) (by kernel_rfl) (by kernel_rfl) (fun _ _ _ h => h) (Or.inl ⟨by kernel_rfl, ?hyI8⟩) hS ?restI8
          case hyI8 =>
            intro w hSw
            have k0 := g0 w hSw; have k1 := g1 w hSw; have k2 := g2 w hSw; have k3 := g3 w hSw; have k4 := g4 w hSw; have k5 := g5 w hSw; have k6 := g6 w hSw; have k7 := g7 w hSw; have k8 := c0 w hSw; have k9 := c1 w hSw; have k10 := c2 w hSw; have k11 := c3 w hSw; have k12 := c4 w hSw; have k13 := c5 w hSw; have k14 := c6 w hSw; have k15 := c7 w hSw
            first | (go_simp; done) | (go_simp; with_reducible rfl)
          try simp only [Act.put, List.setIfInBounds_toArray, List.set_cons_zero, List.set_cons_succ]
          refine wpAnyH_ready (rs := [9]) (by kernel_rfl) (by simp) ?_
          refine AllReadyH.cons rfl (fun K hK => ?_) AllReadyH.nil
          go_simp
          go_wp2_with ((go_at_call 174; refine (KBy.out _ hS).mono ?_; rintro e w7 ⟨rfl, hS⟩))
          refine hK.out _ _ hS (fun _ => ?_)
          clear hK K
          refine wpAnyH_take (i := 10) (v := ?vI10) rfl (by kernel_rfl) (by kernel_rfl) (by kernel_rfl) (fun _ _ _ h => h) (Or.inl ⟨by rfl, ?hyI10⟩) hS ?restI10
          case hyI10 =>
            intro w hSw
            first | (go_simp; done) | (go_simp; with_reducible rfl)
          try simp only [Act.put, List.setIfInBounds_toArray, List.set_cons_zero, List.set_cons_succ]
          refine wpAnyH_done (by kernel_rfl) ?_ _
          try simp only [List.getElem_toArray, List.getElem_cons_succ, List.getElem_cons_zero, List.set_cons_zero, List.set_cons_succ]
          have hS7 : SW w5 w7 := Below.trans HSr.out (Below.mono hS HSr.out.size)
          go_wp2
          go_roundw
          case rel => exact ⟨j, by omega, by go_num, HN, hS7⟩
          case measure => simp [intOf]; omega
        | false =>
          have HA2 : Hid (atD x l l.length = k) := Lib.hid (by rw [HA.out, HSt.out, hb]; rfl)
          rw [hb] at KBy
          clear hb
          have HSr := Lib.hid hS
          clear hS
          go_upto_region 2 with fail
          have hS : (SW wr) _ := SW.drew _
          refine wp_region_held_drew (S := SW wr) (by kernel_rfl) hS (fun _ => ?_)
          refine wpAnyH_take (i := 0) (v := ?vJ0) rfl (by kernel_rfl) (by kernel_rfl) (by kernel_rfl) (fun _ _ _ h => h) (Or.inl ⟨by rfl, ?hyJ0⟩) hS ?restJ0
          case hyJ0 =>
            intro w hSw
            first | (go_simp; done) | (go_simp; with_reducible rfl)
          try simp only [Act.put, List.setIfInBounds_toArray, List.set_cons_zero, List.set_cons_succ]
          refine wpAnyH_take (i := 1) (v := ?vJ1) rfl (by kernel_rfl) (by kernel_rfl) (by kernel_rfl) (fun _ _ _ h => h) (Or.inl ⟨by rfl, ?hyJ1⟩) hS ?restJ1
          case hyJ1 =>
            intro w hSw
            first | (go_simp; done) | (go_simp; with_reducible rfl)
          try simp only [Act.put, List.setIfInBounds_toArray, List.set_cons_zero, List.set_cons_succ]
          refine wpAnyH_take (i := 2) (v := ?vJ2) rfl (by kernel_rfl) (by kernel_rfl) (by kernel_rfl) (fun _ _ _ h => h) (Or.inl ⟨by rfl, ?hyJ2⟩) hS ?restJ2
          case hyJ2 =>
            intro w hSw
            first | (go_simp; done) | (go_simp; with_reducible rfl)
          try simp only [Act.put, List.setIfInBounds_toArray, List.set_cons_zero, List.set_cons_succ]
          refine wpAnyH_take (i := 3) (v := ?vJ3) rfl (by kernel_rfl) (by kernel_rfl) (by kernel_rfl) (fun _ _ _ h => h) (Or.inl ⟨by kernel_rfl, ?hyJ3⟩) hS ?restJ3
          case hyJ3 =>
            intro w hSw
            have k0 := g0 w hSw; have k1 := g1 w hSw; have k2 := g2 w hSw; have k3 := g3 w hSw; have k4 := g4 w hSw; have k5 := g5 w hSw; have k6 := g6 w hSw; have k7 := g7 w hSw; have k8 := c0 w hSw; have k9 := c1 w hSw; have k10 := c2 w hSw; have k11 := c3 w hSw; have k12 := c4 w hSw; have k13 := c5 w hSw; have k14 := c6 w hSw; have k15 := c7 w hSw
            first | (go_simp; done) | (go_simp; with_reducible rfl)
          try simp only [Act.put, List.setIfInBounds_toArray, List.set_cons_zero, List.set_cons_succ]
          refine wpAnyH_take (i := 4) (v := ?vJ4) rfl (by kernel_rfl) (by kernel_rfl) (by kernel_rfl) (fun _ _ _ h => h) (Or.inl ⟨by kernel_rfl, ?hyJ4⟩) hS ?restJ4
          case hyJ4 =>
            intro w hSw
            first | (go_simp; done) | (go_simp; with_reducible rfl)
          try simp only [Act.put, List.setIfInBounds_toArray, List.set_cons_zero, List.set_cons_succ]
          refine wpAnyH_take (i := 5) (v := ?vJ5) rfl (by kernel_rfl) (by kernel_rfl) (by kernel_rfl) (fun _ _ _ h => h) (Or.inl ⟨by kernel_rfl, ?hyJ5⟩) hS ?restJ5
          case hyJ5 =>
            intro w hSw
            first | (go_simp; done) | (go_simp; with_reducible rfl)
          try simp only [Act.put, List.setIfInBounds_toArray, List.set_cons_zero, List.set_cons_succ]
          refine wpAnyH_take (i := 6) (v := ?vJ6) rfl (by kernel_rfl) (by kernel_rfl) (by kernel_rfl) (fun _ _ _ h => h) (Or.inl ⟨by kernel_rfl, ?hyJ6⟩) hS ?restJ6
          case hyJ6 =>
            intro w hSw
            first | (go_simp; done) | (go_simp; with_reducible rfl)
          try simp only [Act.put, List.setIfInBounds_toArray, List.set_cons_zero, List.set_cons_succ]
          refine wpAnyH_take (i := 7) (v := ?vJ7) rfl (by kernel_rfl) (by kernel_rfl) (by kernel_rfl) (fun _ _ _ h => h) (Or.inl ⟨by kernel_rfl, ?hyJ7⟩) hS ?restJ7
          case hyJ7 =>
            intro w hSw
            have k0 := g0 w hSw; have k1 := g1 w hSw; have k2 := g2 w hSw; have k3 := g3 w hSw; have k4 := g4 w hSw; have k5 := g5 w hSw; have k6 := g6 w hSw; have k7 := g7 w hSw; have k8 := c0 w hSw; have k9 := c1 w hSw; have k10 := c2 w hSw; have k11 := c3 w hSw; have k12 := c4 w hSw; have k13 := c5 w hSw; have k14 := c6 w hSw; have k15 := c7 w hSw
            first | (go_simp; done) | (go_simp; with_reducible rfl)
          try simp only [Act.put, List.setIfInBounds_toArray, List.set_cons_zero, List.set_cons_succ]
          refine wpAnyH_take (i := 8) (v := ?vJ8) rfl (by kernel_rfl) (by kernel_rfl) (by kernel_rfl) (fun _ _ _ h => h) (Or.inl ⟨by kernel_rfl, ?hyJ8⟩) hS ?restJ8
          case hyJ8 =>
            intro w hSw
            have k0 := g0 w hSw; have k1 := g1 w hSw; have k2 := g2 w hSw; have k3 := g3 w hSw; have k4 := g4 w hSw; have k5 := g5 w hSw; have k6 := g6 w hSw; have k7 := g7 w hSw; have k8 := c0 w hSw; have k9 := c1 w hSw; have k10 := c2 w hSw; have k11 := c3 w hSw; have k12 := c4 w hSw; have k13 := c5 w hSw; have k14 := c6 w hSw; have k15 := c7 w hSw
            first | (go_simp; done) | (go_simp; with_reducible rfl)
          try simp only [Act.put, List.setIfInBounds_toArray, List.set_cons_zero, List.set_cons_succ]
          refine wpAnyH_ready (rs := [9]) (by kernel_rfl) (by simp) ?_
          refine AllReadyH.cons rfl (fun K hK => ?_) AllReadyH.nil
          go_simp
          go_wp2_with ((go_at_call 174; refine (KBy.out _ hS).mono ?_; rintro e w7 ⟨rfl, hS⟩))
          refine hK.out _ _ hS (fun _ => ?_)
          clear hK K
          refine wpAnyH_take (i := 10) (v := ?vJ10) rfl (by kernel_rfl) (by kernel_rfl) (by kernel_rfl) (fun _ _ _ h => h) (Or.inl ⟨by rfl, ?hyJ10⟩) hS ?restJ10
          case hyJ10 =>
            intro w hSw
            first | (go_simp; done) | (go_simp; with_reducible rfl)
          try simp only [Act.put, List.setIfInBounds_toArray, List.set_cons_zero, List.set_cons_succ]
          refine wpAnyH_done (by kernel_rfl) ?_ _
          try simp only [List.getElem_toArray, List.getElem_cons_succ, List.getElem_cons_zero, List.set_cons_zero, List.set_cons_succ]
          have hW : SW wr w7 := hS
          have hS : SW w5 wr := HSr.out
          have hS7 : SW w5 w7 := Below.trans hS (Below.mono hW hS.size)
          clear hW hS
          have hN7 : ROwn datT 8 encDt w.heap.size w7 (.slice none 0 0) [] := ROwn.nil (Nat.le_trans HB5.out hS7.size)
          have HS7 := Lib.hid hS7
          have hT : RowL 8 encDt w7 (.slice (some ⟨g, 0, none⟩) k cap) (l.take k) := RowL.takeL (HV.out.more hS7) k (by simp; omega)
          have hkl : (k : Int) ≤ (l.length : Int) := by omega
          have hkc : (k : Int) ≤ (cap : Int) := by omega
          have hlc : (l.length : Int) ≤ (cap : Int) := by omega
          clear hS7
          have hlA : ([] : List Dt).length + (l.take k).length ≤ 100000000 := by simp <;> omega
          go_upto_region 6 with (at_builtin; refine wpList_rappl rtD rfl _ _ rfl hN7 rfl (l.take k) _ rfl hT hlA ?_; intro v8 w8 hO8 hC8)
          have hb78 := hC8.but.below (Nat.le_refl _) (fun q hq hv => by cases hv)
          have hS8 : SW w5 w8 := Below.trans HS7.out (Below.mono hb78 HS7.out.size)
          have HS8 := Lib.hid hS8
          have k0 := f0 _ hS8
          have k1 := f1 _ hS8
          have k2 := f2 _ hS8
          have k3 := f3 _ hS8
          have k4 := f4 _ hS8
          have k5 := f5 _ hS8
          have k6 := f6 _ hS8
          have k7 := f7 _ hS8
          have hlB : ([] ++ (l.take k) : List Dt).length ≤ 100000000 := by simp <;> omega
          clear hS8 hb78 hN7 hT
          go_upto_region 7 with (at_builtin; refine wpList_rapp rtD rfl _ _ rfl hO8 rfl (bel_alloc _ _) _ x _ rfl (cs := #[.string x.car, .int .i64 x.num, .int .i64 x.day, .string x.f, .string x.t, .int .i64 x.dep, .int .i64 x.arr, .string x.eq]) rfl (heap_alloc_new _ _) hlB ?_; intro v9 w9 hO9 hC9)
          clear k0 k1 k2 k3 k4 k5 k6 k7
          have hb89 : Below w5.heap.size w8 w9 := hC9.but.below HS8.out.size (fun q hq hv => by
            rcases hC8.own q hv with h | h
            · cases h
            · have := HS7.out.size; omega)
          have hS9 : SW w5 w9 := Below.trans HS8.out hb89
          have HS9 := Lib.hid hS9
          have hD : RowL 8 encDt w9 (.slice (if cap = k then some ⟨g, 0, none⟩ else some ⟨g, k * 8, none⟩) (l.length - k) (cap - k)) (l.drop k) := by
            by_cases e : k < l.length
            · have := RowL.dropL (m := l.length - k) (c' := cap - k) (HV.out.more hS9) e (by simp)
              rw [if_neg (by omega)]
              rwa [Nat.zero_add] at this
            · have h0 : l.drop k = [] := List.drop_eq_nil_of_le (by omega)
              rw [h0, show l.length - k = 0 from by omega]
              exact ⟨_, _, rfl, .inl rfl⟩
          have HI2 : Hid (insD l x = [] ++ (l.take k) ++ [x] ++ (l.drop k)) := Lib.hid (by
            unfold insD
            rw [HA2.out]
            simp)
          have hlC : ([] ++ (l.take k) ++ [x] : List Dt).length + (l.drop k).length ≤ 100000000 := by simp <;> omega
          clear hS9 hb89 hO8 hC8 hC9
          go_wp2_with (at_builtin; refine wpList_rappl rtD rfl _ _ rfl hO9 rfl (l.drop k) _ rfl hD hlC ?_; intro v10 w10 hO10 hC10)
          all_goals go_ret
          all_goals exact ⟨_, rfl, by rw [HI2.out]; exact hO10, HB0.out.trans ((Below.mono HS9.out HB5.out).trans (hC10.below hO9))⟩

end Go.Proofs.YtldillnjnjkkgaaGreatDoor
