/- The memory of a search: three rows and two maps of rows. -/
import Derived.Test.YtkcdifanhdakhaaDoorConM
import Derived.Test.YtkcdifanhdakhaaDoorPlaM
namespace Go.Proofs.YtkcdifanhdakhaaDoor.Con
open Go.RowKit Go.Shelf
set_option linter.unusedSimpArgs false
set_option linter.unusedVariables false

abbrev nilS : Value := .slice none 0 0
abbrev srT : TypeId := 63
inductive Ky
  | o | m | l
  | f (c : ByteArray)
  | t (c : ByteArray)
  deriving DecidableEq
def kyP (fr dn : ByteArray) : Ky → Sg → Bool
  | .o => fun s => kd fr dn s == 1
  | .m => fun s => kd fr dn s == 4
  | .l => fun s => kd fr dn s == 3
  | .f c => fun s => kd fr dn s == 2 && eqS s.t c
  | .t c => fun s => kd fr dn s == 3 && eqS s.f c
/-- the indices below n at a position -/
def kyL (S : List Sg) (fr dn : ByteArray) (n : Nat) (k : Ky) : List Nat := ix S (kyP fr dn k) n
def upd {β : Type} (V : Ky → β) (k : Ky) (v : β) : Ky → β := fun k' => if k' = k then v else V k'
theorem upd_same {β : Type} (V : Ky → β) (k : Ky) (v : β) : upd V k v k = v := by simp [upd]
theorem upd_other {β : Type} (V : Ky → β) {k k' : Ky} (v : β) (h : k' ≠ k) : upd V k v k' = V k' := by simp [upd, h]
theorem lookI_zero (w : World) : (zeroValue ptT).run Tryd.prog w = .ok nilS w := by kernel_rfl
theorem lookI {w : World} {b n : Nat} {g : ByteArray → Option Value} (h : MapS w b n g) (c : ByteArray) (hc : c.size ≤ maxLen) :
    (Instr.lookup 61 (.map (some b)) (.string c) false).run Tryd.prog w = .ok ((g c).getD nilS) w := h.look strK Tryd.underlying61 (lookI_zero w) (str_key c hc) false
theorem mapS_weak {w : World} {b n n' : Nat} {g : ByteArray → Option Value} (h : MapS w b n g) (hn : n ≤ n') : MapS w b n' g := by
  obtain ⟨es, clock, h1, h2, h3, h4⟩ := h
  exact ⟨es, clock, h1, h2, Nat.le_trans h3 hn, h4⟩
theorem grown_but {w w' : World} {v : Value} (h : But w w' (fun k => v.ownBlock = some k)) : w.grownBy w' v.ownBlock :=
  ⟨h.os, h.tape, h.output, h.size, fun k hk hne => h.block k hk (fun e => hne e.symm)⟩

structure SR (w : World) (lo B m1 m2 n : Nat) (vl vs : Value) (V : Ky → Value) (L : Ky → List Nat) : Prop where
  box : w.heap[B]? = some (.cells #[vl, vs, V .o, .map (some m1), V .m, V .l, .map (some m2)] srT (0, 0))
  map1 : ∃ g, MapS w m1 n g ∧ ∀ c, (g c).getD nilS = V (.f c)
  map2 : ∃ g, MapS w m2 n g ∧ ∀ c, (g c).getD nilS = V (.t c)
  own : ∀ k, w.ownsRow lo inT 1 (V k) (L k).length (cellsR encN (L k))
  apart : ∀ k k' b, (V k).ownBlock = some b → (V k').ownBlock = some b → k = k'
  hlo : lo ≤ w.heap.size
  ltB : B < lo
  lt1 : m1 < lo
  lt2 : m2 < lo
  ne1 : B ≠ m1
  ne2 : B ≠ m2
  ne3 : m1 ≠ m2
section
variable {w w' : World} {lo B m1 m2 n : Nat} {vl vs : Value} {V : Ky → Value} {L : Ky → List Nat}
theorem sr_off (h : SR w lo B m1 m2 n vl vs V L) (k : Ky) {b : Nat} (hb : (V k).ownBlock = some b) : lo ≤ b ∧ b < w.heap.size := (h.own k).lt b hb
theorem sr_more (h : SR w lo B m1 m2 n vl vs V L) (hb : Below w.heap.size w w') : SR w' lo B m1 m2 n vl vs V L := by
  obtain ⟨g1, h1, e1⟩ := h.map1
  obtain ⟨g2, h2, e2⟩ := h.map2
  have hl := h.hlo
  exact { h with
    box := (hb.block B (Nat.lt_of_lt_of_le h.ltB hl)).trans h.box
    map1 := ⟨g1, h1.more hb, e1⟩
    map2 := ⟨g2, h2.more hb, e2⟩
    own := fun k => own_more (h.own k) hb
    hlo := Nat.le_trans hl hb.size }
theorem sr_weak {n' : Nat} (h : SR w lo B m1 m2 n vl vs V L) (hn : n ≤ n') : SR w lo B m1 m2 n' vl vs V L := by
  obtain ⟨g1, h1, e1⟩ := h.map1
  obtain ⟨g2, h2, e2⟩ := h.map2
  exact { h with map1 := ⟨g1, mapS_weak h1 hn, e1⟩, map2 := ⟨g2, mapS_weak h2 hn, e2⟩ }
theorem sr_same {L' : Ky → List Nat} (h : SR w lo B m1 m2 n vl vs V L) (hL : ∀ k, L' k = L k) : SR w lo B m1 m2 n vl vs V L' := by
  have e : L' = L := funext hL
  rw [e]; exact h
theorem sr_cells (h : SR w lo B m1 m2 n vl vs V L) : w.cell? ⟨B, 0, none⟩ = some vl ∧ w.cell? ⟨B, 1, none⟩ = some vs ∧ w.cell? ⟨B, 2, none⟩ = some (V .o) ∧ w.cell? ⟨B, 3, none⟩ = some (.map (some m1)) ∧ w.cell? ⟨B, 4, none⟩ = some (V .m) ∧ w.cell? ⟨B, 5, none⟩ = some (V .l) ∧ w.cell? ⟨B, 6, none⟩ = some (.map (some m2)) :=
  ⟨cell_of_row _ _ 0 _ _ (0, 0) h.box, cell_of_row _ _ 1 _ _ (0, 0) h.box, cell_of_row _ _ 2 _ _ (0, 0) h.box, cell_of_row _ _ 3 _ _ (0, 0) h.box, cell_of_row _ _ 4 _ _ (0, 0) h.box, cell_of_row _ _ 5 _ _ (0, 0) h.box, cell_of_row _ _ 6 _ _ (0, 0) h.box⟩
theorem sr_frozen (h : SR w lo B m1 m2 n vl vs V L) (j : Nat) : w.frozen? ⟨B, j, none⟩ = false := frozen_of_row _ _ j _ _ h.box
theorem sr_rown (h : SR w lo B m1 m2 n vl vs V L) (k : Ky) : ROwn inT 1 encN lo w (V k) (L k) := ⟨h.own k, h.hlo⟩
theorem sr_look1 (h : SR w lo B m1 m2 n vl vs V L) (c : ByteArray) (hc : c.size ≤ maxLen) : (Instr.lookup 61 (.map (some m1)) (.string c) false).run Tryd.prog w = .ok (V (.f c)) w := by
  obtain ⟨g, h1, e⟩ := h.map1
  rw [lookI h1 c hc, e]
theorem sr_look2 (h : SR w lo B m1 m2 n vl vs V L) (c : ByteArray) (hc : c.size ≤ maxLen) : (Instr.lookup 61 (.map (some m2)) (.string c) false).run Tryd.prog w = .ok (V (.t c)) w := by
  obtain ⟨g, h1, e⟩ := h.map2
  rw [lookI h1 c hc, e]
/-- what an append dn one of the rows leaves -/
structure SRA (w w1 : World) (lo B m1 m2 n : Nat) (vl vs : Value) (V : Ky → Value) (L : Ky → List Nat) (k : Ky) (v' : Value) (x : Nat) : Prop where
  old : SR w lo B m1 m2 n vl vs V L
  box : w1.heap[B]? = some (.cells #[vl, vs, V .o, .map (some m1), V .m, V .l, .map (some m2)] srT (0, 0))
  map1 : ∃ g, MapS w1 m1 n g ∧ ∀ c, (g c).getD nilS = V (.f c)
  map2 : ∃ g, MapS w1 m2 n g ∧ ∀ c, (g c).getD nilS = V (.t c)
  own : ∀ k', w1.ownsRow lo inT 1 (upd V k v' k') (upd L k (L k ++ [x]) k').length (cellsR encN (upd L k (L k ++ [x]) k'))
  apart : ∀ k' k'' b, (upd V k v' k').ownBlock = some b → (upd V k v' k'').ownBlock = some b → k' = k''
  hlo : lo ≤ w1.heap.size
  size : w.heap.size ≤ w1.heap.size
  keep : ∀ b, b < w.heap.size → (V k).ownBlock ≠ some b → w1.heap[b]? = w.heap[b]?
  bel : Below lo w w1
theorem sr_app (h : SR w lo B m1 m2 n vl vs V L) (k : Ky) (x : Nat) {w1 : World} {v' : Value} (hO : ROwn inT 1 encN lo w1 v' (L k ++ [x])) (hC : Chg w w1 (V k) v') : SRA w w1 lo B m1 m2 n vl vs V L k v' x := by
  obtain ⟨g1, h1, e1⟩ := h.map1
  obtain ⟨g2, h2, e2⟩ := h.map2
  have hl := h.hlo
  have nb : ∀ b, b < lo → (V k).ownBlock ≠ some b := fun b hb e => by have := (sr_off h k e).1; omega
  have kp : ∀ b, b < w.heap.size → (V k).ownBlock ≠ some b → w1.heap[b]? = w.heap[b]? := fun b hb hne => hC.but.block b hb hne
  have hg := grown_but hC.but
  refine ⟨h, (kp B (Nat.lt_of_lt_of_le h.ltB hl) (nb B h.ltB)).trans h.box, ⟨g1, h1.grown hg (fun e => nb m1 h.lt1 e.symm), e1⟩, ⟨g2, h2.grown hg (fun e => nb m2 h.lt2 e.symm), e2⟩, fun k' => ?_, fun k' k'' b => ?_, hO.base, hC.but.size, kp, hC.below (sr_rown h k)⟩
  · by_cases e : k' = k
    · subst e; rw [upd_same, upd_same]; exact hO.own
    · rw [upd_other _ _ e, upd_other _ _ e]
      refine (h.own k').kept hg ?_
      cases hv : (V k').ownBlock with
      | none => exact .inl rfl
      | some b => exact .inr fun e' => e (h.apart k' k b hv e'.symm)
  · intro hb' hb''
    by_cases e : k' = k
    · by_cases e' : k'' = k
      · rw [e, e']
      · exfalso
        subst e
        rw [upd_same] at hb'
        rw [upd_other _ _ e'] at hb''
        rcases hC.own b hb' with h3 | h3
        · exact e' (h.apart k'' k' b hb'' h3)
        · have := (sr_off h k'' hb'').2; omega
    · by_cases e' : k'' = k
      · exfalso
        subst e'
        rw [upd_same] at hb''
        rw [upd_other _ _ e] at hb'
        rcases hC.own b hb'' with h3 | h3
        · exact e (h.apart k' k'' b hb' h3)
        · have := (sr_off h k' hb').2; omega
      · rw [upd_other _ _ e] at hb'
        rw [upd_other _ _ e'] at hb''
        exact h.apart k' k'' b hb' hb''
variable {w1 : World} {k : Ky} {v' : Value} {x : Nat}
theorem sra_off (h : SRA w w1 lo B m1 m2 n vl vs V L k v' x) (k' : Ky) {b : Nat} (hb : (upd V k v' k').ownBlock = some b) : lo ≤ b ∧ b < w1.heap.size := (h.own k').lt b hb
theorem sra_own (h : SRA w w1 lo B m1 m2 n vl vs V L k v' x) {w2 : World} {b : Nat} (hb : b < lo) (hg : w1.grownBy w2 (some b)) (k' : Ky) : w2.ownsRow lo inT 1 (upd V k v' k') (upd L k (L k ++ [x]) k').length (cellsR encN (upd L k (L k ++ [x]) k')) :=
  (h.own k').kept hg (.inr (fun e => by have := (sra_off h k' e).1; omega))
/-- the row's variable in the box is stored anew -/
theorem sra_store (h : SRA w w1 lo B m1 m2 n vl vs V L k v' x) (j : Nat) (hk : (k = .o ∧ j = 2) ∨ (k = .m ∧ j = 4) ∨ (k = .l ∧ j = 5)) : SR (w1.setCell ⟨B, j, none⟩ v') lo B m1 m2 n vl vs (upd V k v') (upd L k (L k ++ [x])) := by
  obtain ⟨g1, h1, e1⟩ := h.map1
  obtain ⟨g2, h2, e2⟩ := h.map2
  have hg : w1.grownBy (w1.setCell ⟨B, j, none⟩ v') (some B) := by
    have hbt := But.setCell w1 B j v'
    exact ⟨hbt.os, hbt.tape, hbt.output, hbt.size, fun k hk hne => hbt.block k hk (fun e => hne (by rw [e]))⟩
  have o := h.old
  refine ⟨?_, ⟨g1, h1.grown hg (fun e => o.ne1 (Option.some.inj e).symm), fun c => ?_⟩, ⟨g2, h2.grown hg (fun e => o.ne2 (Option.some.inj e).symm), fun c => ?_⟩, fun k' => sra_own h o.ltB hg k', h.apart, Nat.le_trans h.hlo hg.size, o.ltB, o.lt1, o.lt2, o.ne1, o.ne2, o.ne3⟩
  · have hs := heap_setCell_same w1 B j _ srT v' h.box
    rw [hs]
    rcases hk with ⟨rfl, rfl⟩ | ⟨rfl, rfl⟩ | ⟨rfl, rfl⟩ <;> simp [upd]
  · rw [e1]; rcases hk with ⟨rfl, rfl⟩ | ⟨rfl, rfl⟩ | ⟨rfl, rfl⟩ <;> simp [upd]
  · rw [e2]; rcases hk with ⟨rfl, rfl⟩ | ⟨rfl, rfl⟩ | ⟨rfl, rfl⟩ <;> simp [upd]


/-- the row is stored in the map -/
theorem sra_put1 {c : ByteArray} (h : SRA w w1 lo B m1 m2 n vl vs V L (.f c) v' x) (hc : c.size ≤ maxLen) (hn : n < 1000) :
    ∃ w2, (Instr.mapUpdate 61 (.map (some m1)) (.string c) v').run Tryd.prog w1 = .ok () w2 ∧ SR w2 lo B m1 m2 (n + 1) vl vs (upd V (.f c) v') (upd L (.f c) (L (.f c) ++ [x])) ∧ w1.grownBy w2 (some m1) := by
  obtain ⟨g1, h1, e1⟩ := h.map1
  obtain ⟨g2, h2, e2⟩ := h.map2
  have o := h.old
  obtain ⟨w2, hrun, hm2, hg⟩ := h1.store strK str_inj Tryd.underlying61 (by unfold maxLen; omega) (str_key c hc) v'
  have hbx : w2.heap[B]? = w1.heap[B]? := hg.block B (Nat.lt_of_lt_of_le o.ltB h.hlo) (fun e => o.ne1 (Option.some.inj e))
  have hnew : ∀ c', ((if c' = c then some v' else g1 c').getD nilS) = upd V (.f c) v' (.f c') := fun c' => by
    by_cases q : c' = c
    · subst q; rw [if_pos rfl, upd_same]; rfl
    · rw [if_neg q, upd_other _ _ (by intro q'; cases q'; exact q rfl)]; exact e1 c'
  have hold : ∀ c', (g2 c').getD nilS = upd V (.f c) v' (.t c') := fun c' => by rw [e2, upd_other _ _ (by intro q; cases q)]
  have hmo := mapS_weak (h2.grown hg (fun e => o.ne3 (Option.some.inj e).symm)) (Nat.le_succ n)
  refine ⟨w2, hrun, ⟨?_, ⟨_, hm2, hnew⟩, ⟨g2, hmo, hold⟩, fun k' => sra_own h o.lt1 hg k', h.apart, Nat.le_trans h.hlo hg.size, o.ltB, o.lt1, o.lt2, o.ne1, o.ne2, o.ne3⟩, hg⟩
  rw [hbx, h.box]
  simp [upd]

/-- the row is stored in the map -/
theorem sra_put2 {c : ByteArray} (h : SRA w w1 lo B m1 m2 n vl vs V L (.t c) v' x) (hc : c.size ≤ maxLen) (hn : n < 1000) :
    ∃ w2, (Instr.mapUpdate 61 (.map (some m2)) (.string c) v').run Tryd.prog w1 = .ok () w2 ∧ SR w2 lo B m1 m2 (n + 1) vl vs (upd V (.t c) v') (upd L (.t c) (L (.t c) ++ [x])) ∧ w1.grownBy w2 (some m2) := by
  obtain ⟨g1, h1, e1⟩ := h.map1
  obtain ⟨g2, h2, e2⟩ := h.map2
  have o := h.old
  obtain ⟨w2, hrun, hm2, hg⟩ := h2.store strK str_inj Tryd.underlying61 (by unfold maxLen; omega) (str_key c hc) v'
  have hbx : w2.heap[B]? = w1.heap[B]? := hg.block B (Nat.lt_of_lt_of_le o.ltB h.hlo) (fun e => o.ne2 (Option.some.inj e))
  have hnew : ∀ c', ((if c' = c then some v' else g2 c').getD nilS) = upd V (.t c) v' (.t c') := fun c' => by
    by_cases q : c' = c
    · subst q; rw [if_pos rfl, upd_same]; rfl
    · rw [if_neg q, upd_other _ _ (by intro q'; cases q'; exact q rfl)]; exact e2 c'
  have hold : ∀ c', (g1 c').getD nilS = upd V (.t c) v' (.f c') := fun c' => by rw [e1, upd_other _ _ (by intro q; cases q)]
  have hmo := mapS_weak (h1.grown hg (fun e => o.ne3 (Option.some.inj e))) (Nat.le_succ n)
  refine ⟨w2, hrun, ⟨?_, ⟨g1, hmo, hold⟩, ⟨_, hm2, hnew⟩, fun k' => sra_own h o.lt2 hg k', h.apart, Nat.le_trans h.hlo hg.size, o.ltB, o.lt1, o.lt2, o.ne1, o.ne2, o.ne3⟩, hg⟩
  rw [hbx, h.box]
  simp [upd]

theorem sr_made {w : World} {lo B m1 m2 : Nat} {vl vs : Value} (hb : w.heap[B]? = some (.cells #[vl, vs, nilS, .map (some m1), nilS, nilS, .map (some m2)] srT (0, 0)))
    (h1 : ∃ g, MapS w m1 0 g ∧ ∀ c, (g c).getD nilS = nilS) (h2 : ∃ g, MapS w m2 0 g ∧ ∀ c, (g c).getD nilS = nilS) (hl : lo ≤ w.heap.size) (a0 : B < lo) (a1 : m1 < lo) (a2 : m2 < lo) (n1 : B ≠ m1) (n2 : B ≠ m2) (n3 : m1 ≠ m2) :
    SR w lo B m1 m2 0 vl vs (fun _ => nilS) (fun _ => []) :=
  ⟨hb, h1, h2, fun k => World.ownsRow_nil _ _ _ _, fun k k' b h => absurd h (by simp [Value.ownBlock]), hl, a0, a1, a2, n1, n2, n3⟩
end

end Go.Proofs.YtkcdifanhdakhaaDoor.Con
