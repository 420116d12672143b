/- Plain facts on configurations without violations. -/
import Derived.Test.YtkghpapbifijcaaGreatDoorCabD
import Derived.Test.YtkghpapbifijcaaGreatDoorCabH
import Derived.Test.YtkghpapbifijcaaGreatDoorCabM
import Derived.Test.YtkghpapbifijcaaGreatDoorCabN
import Derived.Test.YtkghpapbifijcaaGreatDoorCabL
import Derived.Test.YtkghpapbifijcaaGreatDoorCabK
import Derived.Test.YtkghpapbifijcaaGreatDoorCabJ
import Derived.Deep.CutRange
import Derived.Deep.CutBlock
import Derived.Deep.LoopGhost
import Derived.BigQuiet
namespace Go.Proofs.YtkghpapbifijcaaGreatDoor
open Go.RowKit Go.Shelf
set_option linter.unusedSimpArgs false
set_option linter.unusedVariables false

/-- what a machine's values are bound to -/
structure SzCf (f : Cf) : Prop where
  equip : f.equip.size ≤ maxLen
  name : ∀ b ∈ f.l, b.name.size ≤ maxLen
  cls : ∀ b ∈ f.l, ∀ x ∈ b.l, OkCl x
theorem SzCf.ok {f : Cf} (h : SzCf f) (hs : smallF f) : OkCf f := ⟨h.equip, hs.1, fun b hb => ⟨h.name b hb, hs.2 b hb, h.cls b hb⟩⟩
theorem ok_all {l : List Cf} (h : ∀ f ∈ l, SzCf f) (hs : SmallP l) : ∀ f ∈ l, OkCf f := fun f hf => (h f hf).ok (hs.2 f hf)
/-! ### Like -/
theorem pl_mem : ∀ (l : List Cb) (s : ByteArray), plB l s = false → ∀ b ∈ l, ∀ x ∈ b.l, codeQ s x = false
  | [], s, h, b, hb, x, hx => by cases hb
  | c :: r, s, h, b, hb, x, hx => by
    unfold plB at h
    rw [plF] at h
    split at h
    · cases h
    · rename_i h0
      have hr : plB r s = false := by
        unfold plB
        cases hp : plF r s with
        | none => rfl
        | some p => rw [hp] at h; cases h
      rcases List.mem_cons.1 hb with rfl | hb
      · rcases idxQ_find (codeQ s) b.l with ⟨_, _, h3⟩ | ⟨k, a, h1, _⟩
        · obtain ⟨j, hj, rfl⟩ := List.getElem_of_mem hx
          exact h3 j _ (List.getElem?_eq_getElem hj)
        · exfalso; omega
      · exact pl_mem r s hr b hb x hx
theorem pl_of_mem {l : List Cb} {b : Cb} {x : Cl} (hb : b ∈ l) (hx : x ∈ b.l) : plB l x.code = true := by
  cases h : plB l x.code with
  | true => rfl
  | false =>
    have := pl_mem l x.code h b hb x hx
    unfold codeQ at this
    rw [eqS_self] at this
    cases this
theorem lk_facts {la lb : List Cb} {s : ByteArray} (h : (lkR la lb s).2 = true) : plB lb (lkR la lb s).1 = true ∧ (plB lb s = true → (lkR la lb s).1 = s) := by
  unfold lkR at h ⊢
  split at h
  · rename_i h1
    rw [if_pos h1]
    split at h
    · rename_i h2
      rw [if_pos h2]
      exact ⟨h2, fun _ => rfl⟩
    · rename_i h2
      rw [if_neg h2]
      split at h
      · rename_i h3
        rw [if_pos h3]
        refine ⟨?_, fun h => absurd h h2⟩
        obtain ⟨x, hx, he⟩ := last_at (l := lkC la lb s) (n := (lkC la lb s).length - 1) (by omega)
        show plB lb (((lkC la lb s).getLast?.map Cl.code).getD noB) = true
        rw [he]
        unfold lkC at hx
        split at hx
        · rename_i b hb
          exact pl_of_mem (List.mem_of_getElem? hb) (List.mem_of_getElem? hx)
        · simp at hx
      · cases h
  · cases h
end Go.Proofs.YtkghpapbifijcaaGreatDoor

namespace Go.Proofs.YtkghpapbifijcaaGreatDoor
open Go.RowKit Go.Shelf
set_option linter.unusedSimpArgs false
set_option linter.unusedVariables false

theorem flat_nil {α β : Type} {l : List α} {g : Nat → α → List β} {n : Nat} (h : flatG l g n = []) {i : Nat} {x : α} (hi : i < n) (hx : l[i]? = some x) : g i x = [] := by
  unfold flatG at h
  rw [List.flatMap_eq_nil_iff] at h
  have := h i (List.mem_range.2 hi)
  rw [hx] at this
  exact this
theorem pick_none {s : ByteArray} {es : List Int} (h : pick s es = []) : ∀ e ∈ es, e = 0 := by
  intro e he
  apply Classical.byContradiction
  intro hne
  have : (e, s) ∈ pick s es := List.mem_map.2 ⟨e, List.mem_filter.2 ⟨he, by simpa using hne⟩, rfl⟩
  rw [h] at this
  cases this
theorem wh_zero {b : Bool} {e : Int} (h : whC b e = 0) (he : e ≠ 0) : b = false := by
  cases b with
  | false => rfl
  | true => exact absurd h he
/-- what a right configuration is -/
structure RightF (f : Cf) : Prop where
  siz : ∀ b ∈ f.l, sizB b = true
  bad : ∀ b ∈ f.l, ∀ (k : Nat) (x : Cl), b.l[k]? = some x → badP b k x = false
  new : ∀ (i k : Nat) (b : Cb) (x : Cl), f.l[i]? = some b → b.l[k]? = some x → anyS (codesB (f.l.take i) ++ codesC (b.l.take k)) x.code = false
theorem right_of {l : List Cf} (h : conF l l.length = []) : ∀ f ∈ l, RightF f := by
  intro f hf
  obtain ⟨m, hm, rfl⟩ := List.getElem_of_mem hf
  have h1 := flat_nil h hm (List.getElem?_eq_getElem hm)
  have h2 : cabF (conW ++ decA m) l[m].l l[m].l.length = [] := (List.append_eq_nil_iff.1 h1).2
  have hcab : ∀ (i : Nat) (b : Cb), l[m].l[i]? = some b → pick (conW ++ decA m ++ cabW ++ decA i) (cabE l[m].l i b) = [] ∧ clsF (conW ++ decA m ++ cabW ++ decA i) (codesB (l[m].l.take i)) b b.l.length = [] := fun i b hb =>
    List.append_eq_nil_iff.1 (flat_nil h2 (List.getElem?_eq_some_iff.1 hb).1 hb)
  have hcls : ∀ (i k : Nat) (b : Cb) (x : Cl), l[m].l[i]? = some b → b.l[k]? = some x → ∀ e ∈ clsE (codesB (l[m].l.take i)) b k x, e = 0 := fun i k b x hb hx =>
    pick_none (flat_nil (hcab i b hb).2 (List.getElem?_eq_some_iff.1 hx).1 hx)
  refine ⟨fun b hb => ?_, fun b hb k x hx => ?_, fun i k b x hb hx => ?_⟩
  · obtain ⟨i, hi, rfl⟩ := List.getElem_of_mem hb
    have := pick_none (hcab i _ (List.getElem?_eq_getElem hi)).1 (whC (!sizB l[m].l[i]) 2) (by simp [cabE])
    have := wh_zero this (by omega)
    simpa using this
  · obtain ⟨i, hi, rfl⟩ := List.getElem_of_mem hb
    exact wh_zero (hcls i k _ x (List.getElem?_eq_getElem hi) hx (whC (badP l[m].l[i] k x) 2) (by simp [clsE])) (by omega)
  · exact wh_zero (hcls i k b x hb hx (whC (anyS (codesB (l[m].l.take i) ++ codesC (b.l.take k)) x.code) 6) (by simp [clsE])) (by omega)
theorem anyS_no {L : List ByteArray} {s : ByteArray} (h : anyS L s = false) : ∀ x ∈ L, eqS x s = false := by
  intro x hx
  unfold anyS at h
  rw [List.any_eq_false] at h
  have := h x hx
  cases he : eqS x s with
  | false => rfl
  | true => exact absurd (decide_eq_true ((eqS_iff x s).1 he)) this
/-- in a right configuration every class is found at its place -/
theorem right_place {f : Cf} (h : RightF f) {i k : Nat} {b : Cb} {x : Cl} (hb : f.l[i]? = some b) (hx : b.l[k]? = some x) : plI f.l x.code = (i : Int) ∧ plK f.l x.code = (k : Int) ∧ plB f.l x.code = true := by
  have hn := anyS_no (h.new i k b x hb hx)
  have hk : idxQ (codeQ x.code) b.l = (k : Int) := idxQ_yes (fun j y hj hy => by
    refine hn y.code (List.mem_append_right _ (List.mem_map.2 ⟨y, ?_, rfl⟩))
    exact List.mem_of_getElem? (i := j) (by rw [List.getElem?_take, if_pos hj]; exact hy)) hx (eqS_self _)
  have hp := plF_yes f.l x.code i b (fun j c hj hc => by
    rw [idxQ_no (p := codeQ x.code) (fun m y hy => hn y.code (List.mem_append_left _ (List.mem_flatMap.2 ⟨c, List.mem_of_getElem? (i := j) (by rw [List.getElem?_take, if_pos hj]; exact hc), List.mem_map.2 ⟨y, List.mem_of_getElem? hy, rfl⟩⟩)))]
    omega) hb (by rw [hk]; omega)
  rw [hk] at hp
  exact pl_yes hp
theorem plF_sam : ∀ {L M : List Cb} (s : ByteArray), L.map pcb = M.map pcb → plF L s = plF M s
  | [], [], s, _ => rfl
  | [], _ :: _, s, h => by simp at h
  | _ :: _, [], s, h => by simp at h
  | b :: r, c :: q, s, h => by
    simp only [List.map_cons, List.cons.injEq] at h
    have hl : b.l = c.l := congrArg (fun p => p.2.2.2) h.1
    rw [plF, plF, hl, plF_sam s h.2]
theorem find_mem {l : List Cf} {s : ByteArray} {f : Cf} (h : findQ l s = some f) : f ∈ l := List.mem_of_find?_eq_some h

end Go.Proofs.YtkghpapbifijcaaGreatDoor

namespace Go.Proofs.YtkghpapbifijcaaGreatDoor
open Go.RowKit Go.Shelf
set_option linter.unusedSimpArgs false
set_option linter.unusedVariables false

theorem lim_right {f : Cf} (h : RightF f) {b : Cb} (hb : b ∈ f.l) (hl : b.l.length ≤ 30) : LimP b ∧ (∀ k, k < b.l.length → 0 ≤ limA b k) ∧ ∀ k, k + 1 < b.l.length → limA b (k + 1) ≤ limA b k := by
  have hs := h.siz b hb
  obtain ⟨s1, s2, s3, s4⟩ := sizB_in hs
  have hm : mostP b = b.seats + b.over := by unfold mostP; rw [if_pos hs]
  have hk : ∀ (k : Nat) (x : Cl), b.l[k]? = some x → leastP b.l k ≤ x.prot ∧ x.prot ≤ b.seats + b.over := fun k x hx => by
    have := h.bad b hb k x hx
    unfold badP at this
    rw [Bool.or_eq_false_iff, decide_eq_false_iff_not, decide_eq_false_iff_not, hm] at this
    exact ⟨by omega, by omega⟩
  have hpos : ∀ (k : Nat) (x : Cl), b.l[k]? = some x → 0 ≤ x.prot := fun k x hx => by
    have := (hk k x hx).1
    have h0 : 0 ≤ leastP b.l k := by
      cases k with
      | zero => exact Int.le_refl _
      | succ k =>
        simp only [leastP]
        split
        · split <;> omega
        · omega
    omega
  refine ⟨⟨hs, hl, fun x hx => ?_⟩, fun k hk' => ?_, fun k hk' => ?_⟩
  · obtain ⟨k, hk', rfl⟩ := List.getElem_of_mem hx
    have h1 := hpos k _ (List.getElem?_eq_getElem hk')
    have h2 := (hk k _ (List.getElem?_eq_getElem hk')).2
    exact ⟨h1, by omega⟩
  · cases k with
    | zero => simp only [limA]; omega
    | succ k =>
      obtain ⟨x, hx⟩ : ∃ x, b.l[k]? = some x := ⟨_, List.getElem?_eq_getElem (by omega)⟩
      have := (hk k x hx).2
      simp only [limA, hx]
      omega
  · obtain ⟨x, hx⟩ : ∃ x, b.l[k]? = some x := ⟨_, List.getElem?_eq_getElem (by omega)⟩
    have h1 := hpos k x hx
    cases k with
    | zero => simp only [limA, hx]; omega
    | succ k =>
      obtain ⟨y, hy⟩ : ∃ y, b.l[k]? = some y := ⟨_, List.getElem?_eq_getElem (by omega)⟩
      have h2 := (hk (k + 1) x hx).1
      simp only [leastP, hy] at h2
      simp only [limA, hx, hy]
      split at h2 <;> omega
theorem int_at {w : World} {A : Option Addr} {n c : Nat} {l : List Int} (h : IntR w (.slice A n c) l) {k : Nat} {x : Int} (hk : l[k]? = some x) : ∃ b o, A = some ⟨b, o, none⟩ ∧ w.cell? ⟨b, o + k, none⟩ = some (.int .i64 x) := by
  obtain ⟨b, o, e, _, hc⟩ := row_get h hk
  have := hc 0 _ rfl
  rw [Nat.mul_one, Nat.add_zero] at this
  exact ⟨b, o, e, this⟩
theorem maxIf (a b : Int) : max a b = if a < b then b else a := by rw [Int.max_def]; split <;> split <;> omega
theorem minIf (a b : Int) : min a b = if b < a then b else a := by rw [Int.min_def]; split <;> split <;> omega
end Go.Proofs.YtkghpapbifijcaaGreatDoor
