/- Copies of right configurations; New. -/
import Derived.Test.YtkghpapbifijcaaGreatDoorStk2
namespace Go.Proofs.YtkghpapbifijcaaGreatDoor
open Go.RowKit Go.Shelf Go.Maps Go.MapKept
set_option linter.unusedSimpArgs false
set_option linter.unusedVariables false

/-- what a configuration of an inventory is -/
abbrev GoodF (f : Cf) : Prop := RightF f ∧ smallF f ∧ OkCf f ∧ 0 < f.l.length ∧ ∀ b ∈ f.l, 0 < b.l.length
theorem good_of {l : List Cf} (h : conF l l.length = []) (hs : ∀ f ∈ l, smallF f) (hok : ∀ f ∈ l, OkCf f) : ∀ f ∈ l, GoodF f := by
  intro f hf
  refine ⟨right_of h f hf, hs f hf, hok f hf, ?_⟩
  obtain ⟨m, hm, rfl⟩ := List.getElem_of_mem hf
  have h1 := flat_nil h hm (List.getElem?_eq_getElem hm)
  have h0 := (List.append_eq_nil_iff.1 h1).1
  have h2 : cabF (conW ++ decA m) l[m].l l[m].l.length = [] := (List.append_eq_nil_iff.1 h1).2
  refine ⟨?_, fun b hb => ?_⟩
  · have := pick_none h0 (whC (badN l[m].l.length 4) 4) (by simp [conE])
    have := wh_zero this (by omega)
    unfold badN at this
    simp only [Bool.or_eq_false_iff, decide_eq_false_iff_not] at this
    omega
  · obtain ⟨i, hi, rfl⟩ := List.getElem_of_mem hb
    have h3 := (List.append_eq_nil_iff.1 (flat_nil h2 hi (List.getElem?_eq_getElem hi))).1
    have := pick_none h3 (whC (badN l[m].l[i].l.length 26) 4) (by simp [cabE])
    have := wh_zero this (by omega)
    unfold badN at this
    simp only [Bool.or_eq_false_iff, decide_eq_false_iff_not] at this
    omega
theorem equips_of {l : List Cf} (h : conF l l.length = []) {k : Nat} {f : Cf} (hk : l[k]? = some f) : ∀ g ∈ l.take k, eqS g.equip f.equip = false := by
  obtain ⟨hm, rfl⟩ := List.getElem?_eq_some_iff.1 hk
  have h1 := flat_nil h hm (List.getElem?_eq_getElem hm)
  have h0 := (List.append_eq_nil_iff.1 h1).1
  have := pick_none h0 (whC (anyS ((l.take k).map Cf.equip) l[k].equip) 6) (by simp [conE])
  have := anyS_no (wh_zero this (by omega))
  intro g hg
  exact this g.equip (List.mem_map.2 ⟨g, hg, rfl⟩)
theorem pcb_eq {b b' : Cb} (h : pcb b = pcb b') : ∃ A c, b = { b' with A := A, c := c } := by
  obtain ⟨n, s, o, A, c, l⟩ := b
  obtain ⟨n', s', o', A', c', l'⟩ := b'
  simp only [pcb, Prod.mk.injEq] at h
  obtain ⟨rfl, rfl, rfl, rfl⟩ := h
  exact ⟨A, c, rfl⟩
theorem codesB_pcb {L M : List Cb} (h : L.map pcb = M.map pcb) : codesB L = codesB M := by
  have e : ∀ K : List Cb, codesB K = (K.map pcb).flatMap fun p => codesC p.2.2.2 := fun K => by unfold codesB; rw [List.flatMap_map]; rfl
  rw [e, e, h]
theorem sam_mem {f g : Cf} (h : SamC f g) {b : Cb} (hb : b ∈ f.l) : ∃ b' ∈ g.l, pcb b = pcb b' := by
  have h1 : pcb b ∈ g.l.map pcb := by rw [← h.l]; exact List.mem_map.2 ⟨b, hb, rfl⟩
  obtain ⟨b', h2, h3⟩ := List.mem_map.1 h1
  exact ⟨b', h2, h3.symm⟩
theorem GoodF.sam {f g : Cf} (h : GoodF g) (hs : SamC f g) : GoodF f := by
  obtain ⟨h1, h2, h3, h4, h5⟩ := h
  have hl := sam_len hs.l
  have hmem : ∀ b ∈ f.l, ∃ b' ∈ g.l, ∃ A c, b = { b' with A := A, c := c } := fun b hb => by
    obtain ⟨b', h6, h7⟩ := sam_mem hs hb
    exact ⟨b', h6, pcb_eq h7⟩
  refine ⟨⟨fun b hb => ?_, fun b hb k x hx => ?_, fun i k b x hb hx => ?_⟩, ⟨by rw [hl]; exact h2.1, fun b hb => ?_⟩, ⟨by rw [hs.eq]; exact h3.equip, by rw [hl]; exact h3.len, fun b hb => ?_⟩, by rw [hl]; exact h4, fun b hb => ?_⟩
  · obtain ⟨b', h6, A, c, rfl⟩ := hmem b hb
    exact h1.siz b' h6
  · obtain ⟨b', h6, A, c, rfl⟩ := hmem b hb
    exact h1.bad b' h6 k x hx
  · obtain ⟨b', hb'⟩ : ∃ b', g.l[i]? = some b' := ⟨_, List.getElem?_eq_getElem (by rw [← hl]; exact (List.getElem?_eq_some_iff.1 hb).1)⟩
    obtain ⟨A, c, rfl⟩ := pcb_eq (sam_at hs.l hb hb')
    have h6 : (f.l.take i).map pcb = (g.l.take i).map pcb := by rw [List.map_take, List.map_take, hs.l]
    rw [codesB_pcb h6]
    exact h1.new i k b' x hb' hx
  · obtain ⟨b', h6, A, c, rfl⟩ := hmem b hb
    exact h2.2 b' h6
  · obtain ⟨b', h6, A, c, rfl⟩ := hmem b hb
    exact ⟨(h3.cab b' h6).name, (h3.cab b' h6).len, (h3.cab b' h6).cls⟩
  · obtain ⟨b', h6, A, c, rfl⟩ := hmem b hb
    exact h5 b' h6
/-- the same configurations, wherever they lie -/
structure SamL (cs l : List Cf) : Prop where
  len : cs.length = l.length
  each : ∀ (k : Nat) (f g : Cf), cs[k]? = some f → l[k]? = some g → SamC f g
theorem SamL.mem {cs l : List Cf} (h : SamL cs l) {f : Cf} (hf : f ∈ cs) : ∃ g ∈ l, SamC f g := by
  obtain ⟨k, hk, rfl⟩ := List.getElem_of_mem hf
  have hk2 : k < l.length := by rw [← h.len]; exact hk
  exact ⟨l[k], List.getElem_mem hk2, h.each k _ _ (List.getElem?_eq_getElem hk) (List.getElem?_eq_getElem hk2)⟩
theorem findQ_sam : ∀ {cs l : List Cf} (s : ByteArray), SamL cs l → (findQ cs s = none ∧ findQ l s = none) ∨ ∃ f g, findQ cs s = some f ∧ findQ l s = some g ∧ SamC f g
  | [], [], s, _ => .inl ⟨rfl, rfl⟩
  | [], g :: l, s, h => by have := h.len; simp at this
  | f :: cs, [], s, h => by have := h.len; simp at this
  | f :: cs, g :: l, s, h => by
    have h0 := h.each 0 f g rfl rfl
    have ht : SamL cs l := ⟨by have := h.len; simpa using this, fun k a b ha hb => h.each (k + 1) a b (by simpa using ha) (by simpa using hb)⟩
    unfold findQ
    rw [List.find?_cons, List.find?_cons, h0.eq]
    cases e : eqS g.equip s with
    | true => exact .inr ⟨f, g, rfl, rfl, h0⟩
    | false => exact findQ_sam s ht
theorem gC_snoc {cs : List Cf} {f : Cf} (h : ∀ g ∈ cs, eqS g.equip f.equip = false) : (fun c' => if c' = f.equip then some (aggCf f) else gC cs c') = gC (cs ++ [f]) := by
  funext s
  unfold gC findQ
  rw [List.find?_append]
  by_cases e : s = f.equip
  · subst e
    have h1 : cs.find? (fun g => eqS g.equip f.equip) = none := List.find?_eq_none.2 (fun g hg => by rw [h g hg]; simp)
    rw [if_pos rfl, h1]
    simp [eqS_self]
  · have h2 : eqS f.equip s = false := by
      cases e2 : eqS f.equip s with
      | false => rfl
      | true => exact absurd ((eqS_iff _ _).1 e2).symm e
    rw [if_neg e]
    cases cs.find? (fun g => eqS g.equip s) <;> simp [h2]
theorem RowL.drop {α : Type} {sz : Nat} {enc : α → List Value} {w : World} {b o n c : Nat} {l : List α} (h : RowL sz enc w (.slice (some ⟨b, o, none⟩) n c) l) (k : Nat) (c' : Nat) : RowL sz enc w (.slice (some ⟨b, o + k * sz, none⟩) (l.drop k).length c') (l.drop k) := by
  obtain ⟨A', c2, e, h2⟩ := h
  simp only [Value.slice.injEq] at e
  obtain ⟨rfl, _, _⟩ := e
  refine ⟨_, c', rfl, ?_⟩
  rcases h2 with h2 | ⟨b', o', e, hlt, hc⟩
  · left; rw [h2]; simp
  · cases e
    refine .inr ⟨_, _, rfl, hlt, fun i x j u hi hu => ?_⟩
    rw [List.getElem?_drop] at hi
    have := hc (k + i) x j u hi hu
    rw [Nat.add_mul] at this
    rw [show o + k * sz + i * sz + j = o + (k * sz + i * sz) + j by omega]
    exact this
theorem cfIn_of {w : World} {R : Nat → Prop} {ml : Nat} {es : Array MapEntry} {cl : Nat} (hm : w.heap[ml]? = some (.map es cl)) (hR : ∀ k, k < w.heap.size → k ≠ ml → R k) {f : Cf} (h : CfAt w f) : CfIn R w f := by
  have key : ∀ {α : Type} {enc : α → List Value} {sz : Nat} {A : Option Addr} {n c : Nat} {l : List α}, (∀ x, ∃ u, (enc x)[0]? = some u) → RowL sz enc w (.slice A n c) l → RowIn R sz enc w A l := by
    intro α enc sz A n c l he h
    obtain ⟨A', c', e, h2⟩ := h
    simp only [Value.slice.injEq] at e
    obtain ⟨rfl, _, _⟩ := e
    rcases h2 with h2 | ⟨b, o, e, hlt, hc⟩
    · exact .inl h2
    · cases l with
      | nil => exact .inl rfl
      | cons x r =>
        obtain ⟨u, hu⟩ := he x
        exact .inr ⟨b, o, e, hR b hlt (nomap_cell (hc 0 x 0 u rfl hu) hm), hlt, hc⟩
  exact ⟨key (fun x => ⟨_, rfl⟩) h.1, fun b hb => key (fun x => ⟨_, rfl⟩) (h.2 b hb)⟩
/-- an inventory without legs -/
theorem StkAt.made {w : World} {B mc ml n : Nat} {cs : List Cf} (c0 : w.cell? ⟨B, 0, none⟩ = some (.map (some mc))) (c1 : w.cell? ⟨B, 1, none⟩ = some (.map (some ml))) (hmc : MapS w mc n (gC cs)) (hn : n ≤ 100) (hml : w.heap[ml]? = some (.map #[] 0)) (hne : mc ≠ ml) (hcs : ∀ f ∈ cs, CfAt w f ∧ GoodF f) :
    StkAt w (fun k => k < w.heap.size ∧ k ≠ ml) (fun k => if k = ml then .map else .none) B 0 cs (fun _ => none) := by
  refine ⟨⟨mc, ml, n, c0, c1, ⟨hmc.lt, hne⟩, hmc, hn, if_pos rfl, fun _ => none, ⟨#[], 0, hml, ⟨by simp, stamped_empty 0, by simp⟩, by simp, by simp, by simp⟩, fun i => rfl⟩, .inl ⟨World.block_lt_of_cell? _ _ c0, nomap_cell c0 hml⟩, fun f hf => ⟨cfIn_of hml (fun k h1 h2 => ⟨h1, h2⟩) (hcs f hf).1, (hcs f hf).2⟩, fun k hk => ?_, fun k hk => hk.1, fun a b i h1 => ?_, fun a i h1 => ?_⟩
  · by_cases e : k = ml
    · subst e
      exact ⟨fun h => h.2 rfl, (Array.getElem?_eq_some_iff.1 hml).1⟩
    · rw [if_neg e] at hk; exact absurd rfl hk
  · split at h1 <;> cases h1
  · split at h1 <;> cases h1
end Go.Proofs.YtkghpapbifijcaaGreatDoor
