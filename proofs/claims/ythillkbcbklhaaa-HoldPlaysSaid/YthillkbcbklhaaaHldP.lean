/- Holds: plain data, their order, and what every call changes. -/
import Derived.Test.YthillkbcbklhaaaHldA
namespace Go.Proofs.Ythillkbcbklhaaa
open Go.RowKit Go.Shelf Go.Maps Go.MapKept
set_option linter.unusedSimpArgs false
set_option linter.unusedVariables false

abbrev hdT : TypeId := 36
structure Hd where
  id : Int
  A : Option Addr
  c : Nat
  l : List Lid
  cls : ByteArray
  cnt : Int
  til : Int
def encH (h : Hd) : List Value := [.int .i64 h.id, .slice h.A h.l.length h.c, .string h.cls, .int .i64 h.cnt, .int .i64 h.til]
abbrev aggH (h : Hd) : Value := .agg #[.int .i64 h.id, .slice h.A h.l.length h.c, .string h.cls, .int .i64 h.cnt, .int .i64 h.til]
abbrev HdL (w : World) (v : Value) (l : List Hd) : Prop := RowL 5 encH w v l
theorem rowH : RT Try.prog 45 hdT 5 encH where
  ht := Try.underlying45
  info := ⟨.agg #[.int .i64 0, .slice none 0 0, .string noB, .int .i64 0, .int .i64 0], 64, by kernel_rfl, rfl, by omega⟩
  len x := rfl
  one x u hu := by simp [encH] at hu; rcases hu with rfl | rfl | rfl | rfl | rfl <;> rfl
  pos := by omega
structure OkH (h : Hd) : Prop where
  i0 : -9223372036854775808 ≤ h.id
  i1 : h.id ≤ 9223372036854775807
  len : h.l.length ≤ 1000
  legs : ∀ i ∈ h.l, OkD i
  cls : h.cls.size ≤ maxLen
/-- a minute that there is -/
def timB (m : Int) : Bool := decide (0 ≤ m) && decide (m < 52596000)
/-- what can be put into a set without this identifier -/
def rgtH (h : Hd) : Bool := decide (1 ≤ h.id) && decide (0 < h.l.length) && !twiP h.l && decide (1 ≤ h.cnt) && decide (h.cnt ≤ 99) && timB h.til
/-- the order of holds -/
def ltH (a b : Hd) : Prop := a.til < b.til ∨ (a.til = b.til ∧ a.id < b.id)
instance (a b : Hd) : Decidable (ltH a b) := by unfold ltH; infer_instance
theorem ltH_irrefl (a : Hd) : ¬ ltH a a := by unfold ltH; omega
theorem ltH_trans {a b c : Hd} (h : ltH a b) (k : ltH b c) : ltH a c := by unfold ltH at *; omega
theorem ltH_tri {a b : Hd} (h : a.id ≠ b.id) : ltH a b ∨ ltH b a := by unfold ltH; omega
def hasI (hs : List Hd) (i : Int) : Bool := hs.any fun h => decide (h.id = i)
def findH (hs : List Hd) (i : Int) : Option Hd := hs.find? fun h => decide (h.id = i)
def dropH (hs : List Hd) (i : Int) : List Hd := hs.filter fun h => !decide (h.id = i)
def insH (x : Hd) : List Hd → List Hd
  | [] => [x]
  | y :: r => if ltH y x then y :: insH x r else x :: y :: r
/-- the holds in order -/
structure SrtH (hs : List Hd) : Prop where
  ord : hs.Pairwise ltH
  ids : (hs.map Hd.id).Nodup
theorem SrtH.nil : SrtH [] := ⟨List.Pairwise.nil, List.nodup_nil⟩
theorem mem_ins {x y : Hd} : ∀ hs : List Hd, y ∈ insH x hs ↔ y = x ∨ y ∈ hs
  | [] => by simp [insH]
  | z :: r => by
    unfold insH
    split
    · rw [List.mem_cons, mem_ins r, List.mem_cons]
      constructor
      · rintro (h | h | h)
        · exact .inr (.inl h)
        · exact .inl h
        · exact .inr (.inr h)
      · rintro (h | h | h)
        · exact .inr (.inl h)
        · exact .inl h
        · exact .inr (.inr h)
    · rw [List.mem_cons, List.mem_cons]
theorem ins_perm (x : Hd) : ∀ hs : List Hd, (insH x hs).Perm (x :: hs)
  | [] => List.Perm.refl _
  | z :: r => by
    unfold insH
    split
    · exact ((ins_perm x r).cons z).trans (List.Perm.swap x z r)
    · exact List.Perm.refl _
theorem SrtH.ins {hs : List Hd} (h : SrtH hs) {x : Hd} (hx : ∀ y ∈ hs, y.id ≠ x.id) : SrtH (insH x hs) := by
  refine ⟨?_, ?_⟩
  · have ho := h.ord
    clear h
    induction hs with
    | nil => exact List.pairwise_singleton _ _
    | cons y r ih =>
      rw [List.pairwise_cons] at ho
      unfold insH
      split
      · rename_i hyx
        rw [List.pairwise_cons]
        refine ⟨fun z hz => ?_, ih (fun z hz => hx z (by simp [hz])) ho.2⟩
        rcases (mem_ins r).1 hz with rfl | hz
        · exact hyx
        · exact ho.1 z hz
      · rename_i hyx
        have hxy : ltH x y := (ltH_tri (hx y (by simp))).resolve_left hyx
        rw [List.pairwise_cons, List.pairwise_cons]
        exact ⟨fun z hz => by
          rcases List.mem_cons.1 hz with rfl | hz
          · exact hxy
          · exact ltH_trans hxy (ho.1 z hz), ho⟩
  · rw [((ins_perm x hs).map Hd.id).nodup_iff, List.map_cons, List.nodup_cons]
    refine ⟨fun hm => ?_, h.ids⟩
    obtain ⟨y, hy, e⟩ := List.mem_map.1 hm
    exact hx y hy e
theorem SrtH.sub {hs hs' : List Hd} (h : SrtH hs) (hl : hs'.Sublist hs) : SrtH hs' := ⟨h.ord.sublist hl, h.ids.sublist (hl.map Hd.id)⟩
theorem SrtH.drop {hs : List Hd} (h : SrtH hs) (i : Int) : SrtH (dropH hs i) := h.sub List.filter_sublist
theorem mem_drop {hs : List Hd} {i : Int} {y : Hd} : y ∈ dropH hs i ↔ y ∈ hs ∧ y.id ≠ i := by
  unfold dropH
  rw [List.mem_filter]
  simp
theorem drop_none {hs : List Hd} {i : Int} (h : findH hs i = none) : dropH hs i = hs := by
  unfold findH at h
  rw [List.find?_eq_none] at h
  unfold dropH
  rw [List.filter_eq_self]
  intro a ha
  have := h a ha
  simpa using this
theorem find_some {hs : List Hd} {i : Int} {x : Hd} (h : findH hs i = some x) : x ∈ hs ∧ x.id = i := by
  unfold findH at h
  exact ⟨List.mem_of_find?_eq_some h, by simpa using List.find?_some h⟩
theorem find_no {hs : List Hd} {i : Int} (h : findH hs i = none) : ∀ y ∈ hs, y.id ≠ i := by
  unfold findH at h
  rw [List.find?_eq_none] at h
  intro y hy
  simpa using h y hy
/-- who is found: by the identifiers, wherever he stands -/
theorem find_iff {hs : List Hd} (h : (hs.map Hd.id).Nodup) (i : Int) (x : Hd) : findH hs i = some x ↔ x ∈ hs ∧ x.id = i := by
  constructor
  · exact find_some
  · rintro ⟨hx, rfl⟩
    induction hs with
    | nil => cases hx
    | cons y r ih =>
      rw [List.map_cons, List.nodup_cons] at h
      unfold findH
      rw [List.find?_cons]
      by_cases e : y.id = x.id
      · have : y = x := by
          rcases List.mem_cons.1 hx with rfl | hx
          · rfl
          · exact absurd (List.mem_map.2 ⟨x, hx, e.symm⟩) h.1
        simp [e, this]
      · simp only [e, decide_false]
        refine ih h.2 ?_
        rcases List.mem_cons.1 hx with rfl | hx
        · exact absurd rfl e
        · exact hx
/-- lists with the same holds find the same -/
theorem find_same {hs hs' : List Hd} (h : (hs.map Hd.id).Nodup) (h' : (hs'.map Hd.id).Nodup) {i : Int} (hm : ∀ x : Hd, x.id = i → (x ∈ hs ↔ x ∈ hs')) : findH hs i = findH hs' i := by
  apply Option.ext
  intro x
  rw [find_iff h, find_iff h']
  constructor
  · rintro ⟨h1, h2⟩; exact ⟨(hm x h2).1 h1, h2⟩
  · rintro ⟨h1, h2⟩; exact ⟨(hm x h2).2 h1, h2⟩
/-- the map of the holds -/
def gH (hs : List Hd) (i : Int) : Option Value := (findH hs i).map aggH
theorem gH_put {hs : List Hd} (h : SrtH hs) (x : Hd) : (fun c => if c = x.id then some (aggH x) else gH hs c) = gH (insH x (dropH hs x.id)) := by
  have hd := h.drop x.id
  have hi := hd.ins (x := x) (fun y hy => (mem_drop.1 hy).2)
  funext c
  unfold gH
  by_cases e : c = x.id
  · subst e
    rw [if_pos rfl, (find_iff hi.ids _ _).2 ⟨(mem_ins _).2 (.inl rfl), rfl⟩]
    rfl
  · rw [if_neg e, find_same h.ids hi.ids (i := c) (fun z hz => by
      rw [mem_ins, mem_drop]
      constructor
      · intro h1; exact .inr ⟨h1, by rw [hz]; exact e⟩
      · rintro (rfl | h1)
        · exact absurd hz.symm e
        · exact h1.1)]
theorem gH_drop {hs : List Hd} (h : SrtH hs) (i : Int) : (fun c => if c = i then none else gH hs c) = gH (dropH hs i) := by
  have hd := h.drop i
  funext c
  unfold gH
  by_cases e : c = i
  · subst e
    rw [if_pos rfl]
    cases hf : findH (dropH hs c) c with
    | none => rfl
    | some x => exact absurd (find_some hf).2 (mem_drop.1 (find_some hf).1).2
  · rw [if_neg e, find_same h.ids hd.ids (i := c) (fun z hz => by
      rw [mem_drop]
      exact ⟨fun h1 => ⟨h1, by rw [hz]; exact e⟩, fun h1 => h1.1⟩)]
theorem srtH_unique : ∀ {hs ks : List Hd}, hs.Pairwise ltH → ks.Pairwise ltH → (∀ x, x ∈ hs ↔ x ∈ ks) → hs = ks
  | [], [], _, _, _ => rfl
  | [], k :: r, _, _, h => by have := (h k).2 (by simp); cases this
  | x :: r, [], _, _, h => by have := (h x).1 (by simp); cases this
  | x :: r, k :: q, h1, h2, h => by
    rw [List.pairwise_cons] at h1 h2
    have e : x = k := by
      rcases List.mem_cons.1 ((h x).1 (by simp)) with e | e
      · exact e
      · rcases List.mem_cons.1 ((h k).2 (by simp)) with e' | e'
        · exact e'.symm
        · exact absurd (ltH_trans (h1.1 k e') (h2.1 x e)) (ltH_irrefl x)
    subst e
    refine congrArg (x :: ·) (srtH_unique h1.2 h2.2 (fun y => ⟨fun hy => ?_, fun hy => ?_⟩))
    · rcases List.mem_cons.1 ((h y).1 (by simp [hy])) with rfl | e
      · exact absurd (h1.1 y hy) (ltH_irrefl y)
      · exact e
    · rcases List.mem_cons.1 ((h y).2 (by simp [hy])) with rfl | e
      · exact absurd (h2.1 y hy) (ltH_irrefl y)
      · exact e
/-- the errors, in their order -/
def putE (hs : List Hd) (x : Hd) : Int := if rgtH x = false then 2 else if (findH hs x.id).isSome = true then 6 else 0
def dropE (hs : List Hd) (i : Int) : Int := if (findH hs i).isSome = true then 0 else 7
def extE (hs : List Hd) (i m : Int) : Int := if (findH hs i).isSome = false then 7 else if timB m = false then 2 else 0
/-- the seats of the holds with this class and leg -/
def hldB (i : Lid) (s : ByteArray) (h : Hd) : Bool := eqS h.cls s && h.l.any (eqD i)
def heldP (i : Lid) (s : ByteArray) : List Hd → Int
  | [] => 0
  | h :: r => (if hldB i s h = true then h.cnt else 0) + heldP i s r
def endB (m : Int) (h : Hd) : Bool := decide (h.til ≤ m)
def goneH (m : Int) (hs : List Hd) : List Hd := hs.filter (endB m)
def restH (m : Int) (hs : List Hd) : List Hd := hs.filter fun h => !endB m h
theorem heldP_app (i : Lid) (s : ByteArray) : ∀ a b : List Hd, heldP i s (a ++ b) = heldP i s a + heldP i s b
  | [], b => by simp [heldP]
  | h :: r, b => by simp only [List.cons_append, heldP, heldP_app i s r b]; omega
theorem heldP_perm (i : Lid) (s : ByteArray) {a b : List Hd} (h : a.Perm b) : heldP i s a = heldP i s b := by
  induction h with
  | nil => rfl
  | cons x _ ih => simp only [heldP, ih]
  | swap x y l => simp only [heldP]; omega
  | trans _ _ h1 h2 => exact h1.trans h2
end Go.Proofs.Ythillkbcbklhaaa
