/- Walk of checkAirports, whatever there is to report. -/
import Derived.Test.YtkcdifanhdakhaaDoorFltA
import Derived.Test.YtkcdifanhdakhaaDoorPlaN
import Derived.Test.YtkcdifanhdakhaaDoorShelf
import Derived.Deep.RegionHeld3
import Derived.Deep.Onto
import Derived.Lib.ItoaLen
namespace Go.Proofs.YtkcdifanhdakhaaDoor
open Go.RowKit Go.Shelf
set_option linter.unusedSimpArgs false
set_option linter.unusedVariables false

abbrev errT : TypeId := 29
theorem errs_new (w : World) (es : List Int) {cs : Array Value} (hcs : cs = (es.map (Value.int .i64)).toArray) : ∀ k (h : k < es.length), (w.alloc (.cells cs errT)).cell? ⟨w.heap.size, k, none⟩ = some (.int .i64 es[k]) := by
  intro k hk
  subst hcs
  rw [cells_new, List.getElem?_toArray, List.getElem?_map, List.getElem?_eq_getElem hk]
  rfl
theorem But.on {w w' w'' : World} {X : Nat → Prop} (h : But w w' X) (hb : Below w'.heap.size w' w'') : But w w'' X := h.trans (But.of_below (X := X) hb) (fun _ _ h => h)
/-- since w6 nothing has turned but v's own block -/
abbrev SX (w6 : World) (v : Value) (W : World) : Prop := But w6 W (fun k => v.ownBlock = some k)
theorem SX.cell {w6 W : World} {v : Value} {a : Addr} {x : Value} (hc : w6.cell? a = some x) (hne : v.ownBlock ≠ some a.block) (h : SX w6 v W) : W.cell? a = some x :=
  (World.cell?_of_block (h.block a.block (World.block_lt_of_cell? _ _ hc) hne)).trans hc
theorem SX.map {κ : Type} [DecidableEq κ] {P : Program} {k : TypeId} {en : κ → Value} {w6 W : World} {v : Value} {b n : Nat} {g : κ → Option Value} (hm : MapK P k en w6 b n g) (hne : v.ownBlock ≠ some b) (h : SX w6 v W) : MapK P k en W b n g := hm.same (h.block b hm.lt hne)
theorem ROwn.grown {α : Type} {enc : α → List Value} {e : TypeId} {sz B : Nat} {w w' : World} {v : Value} {l : List α} {row : Option Nat} (h : ROwn e sz enc B w v l) (hg : w.grownBy w' row) (hne : row ≠ v.ownBlock ∨ v.ownBlock = none) : ROwn e sz enc B w' v l :=
  ⟨h.own.kept hg (by
    rcases hne with h1 | h1
    · exact .inr (fun e => h1 e.symm)
    · exact .inl h1), Nat.le_trans h.base hg.size⟩
theorem itoa_nat (k : Nat) : Lib.itoa (k : Int) = Lib.decDigits k := by
  unfold Lib.itoa
  rw [if_neg (by omega)]
  simp
theorem decA_size (k : Nat) (h : k < 100) : (decA k).size ≤ 21 := by
  have := Lib.itoa_length_le (k : Int) (by omega) (by omega)
  show (Lib.itoa (k : Int)).toArray.size ≤ 21
  simpa using this
theorem dec_small (k : Nat) (h : k < 100) (w : World) : Calls Tryd.prog 29 #[.int .i64 (k : Int)] w fun e w' => e = .returned (.string (decA k)) ∧ w = w' := by
  have HC : Hid (∀ w, Calls Tryd.prog 53 #[.int .i64 (k : Int)] w fun e w' => e = .returned (.string (decA k)) ∧ w = w') := Lib.hid (fun w => by
    have h := Tryd.strconv_Itoa_small k h w
    rw [← itoa_nat] at h
    exact h.mono (by rintro e w' ⟨rfl, rfl⟩; exact ⟨rfl, rfl⟩))
  generalize decA k = s at *
  go_enter Tryd.func29, Tryd.ntmps29
  go_wp2_with (go_at_call 53; refine (HC.out _).mono ?_; rintro e w' ⟨rfl, rfl⟩)
  go_ret
  exact ⟨rfl, rfl⟩
def gC (L : List Air) (c : ByteArray) : Option Value := if L.any (fun b => decide (b.code = c)) then some (.bool true) else none
def gL (L : List Air) (c : ByteArray) : Option Value := (L.find? (fun b => decide (b.city = c))).map fun b => .string b.land
def gV (L : List Air) (c : ByteArray) : Option Value := if sevB L c then some (.bool true) else none
theorem gC_put (L : List Air) (a : Air) : (fun c' => if c' = a.code then some (Value.bool true) else gC L c') = gC (L ++ [a]) := by
  funext c
  unfold gC
  by_cases e : c = a.code
  · subst e; simp
  · have e' : ¬ a.code = c := fun h => e h.symm
    simp [e, e']
theorem gL_new (L : List Air) (a : Air) (h : L.find? (fun b => decide (b.city = a.city)) = none) : (fun c' => if c' = a.city then some (Value.string a.land) else gL L c') = gL (L ++ [a]) := by
  funext c
  unfold gL
  by_cases e : c = a.city
  · subst e; rw [List.find?_append, h]; simp
  · have e' : ¬ a.city = c := fun h => e h.symm
    rw [List.find?_append]; simp [e, e']
theorem gL_old (L : List Air) (a b : Air) (h : L.find? (fun b => decide (b.city = a.city)) = some b) : gL (L ++ [a]) = gL L := by
  funext c
  unfold gL
  by_cases e : c = a.city
  · subst e; rw [List.find?_append, h]; simp
  · have e' : ¬ a.city = c := fun h => e h.symm
    rw [List.find?_append]; simp [e']
theorem gV_put (L : List Air) (a : Air) (h : ∀ c, sevB (L ++ [a]) c = (decide (c = a.city) || sevB L c)) : (fun c' => if c' = a.city then some (Value.bool true) else gV L c') = gV (L ++ [a]) := by
  funext c
  unfold gV
  rw [h]
  by_cases e : c = a.city <;> simp [e]
theorem gC_get (L : List Air) (c : ByteArray) : (gC L c).getD (.bool false) = .bool (L.any fun b => decide (b.code = c)) := by
  unfold gC
  cases L.any fun b => decide (b.code = c) <;> rfl
theorem gV_get (L : List Air) (c : ByteArray) : (gV L c).getD (.bool false) = .bool (sevB L c) := by
  unfold gV
  cases sevB L c <;> rfl
theorem mov_sev (L : List Air) (a : Air) : movB L a = sevB (L ++ [a]) a.city := by
  cases h : L.find? (fun b => decide (b.city = a.city)) with
  | none =>
    obtain ⟨h1, h2⟩ := sev_new L a h
    rw [h1, h2]
    unfold sevB
    rw [h]
  | some f =>
    by_cases hl : f.land = a.land
    · obtain ⟨h1, h2⟩ := sev_same L a f h hl
      rw [h1, h2]
    · obtain ⟨h1, h2⟩ := sev_diff L a f h hl
      rw [h1, h2]; simp
theorem ShL.but' {w w' : World} {X : Nat → Prop} {A : Option Addr} {l : Shs} (h : ShL w A l) (hb : But w w' X) (hA : l = [] ∨ A = none ∨ ∃ g o, A = some ⟨g, o, none⟩ ∧ ¬ X g) : ShL w' A l := by
  rcases h with h | ⟨b, o, rfl, hlt, hc⟩
  · exact .inl h
  · rcases hA with h | h | ⟨g, o', e, hx⟩
    · exact .inl h
    · cases h
    · cases e
      exact .inr ⟨b, o, rfl, Nat.lt_of_lt_of_le hlt hb.size, fun i hi => ⟨(World.cell?_of_block (a := ⟨b, o + i * 2, none⟩) (hb.block b hlt hx)).trans (hc i hi).1, (World.cell?_of_block (a := ⟨b, o + i * 2 + 1, none⟩) (hb.block b hlt hx)).trans (hc i hi).2⟩⟩
theorem ShL.below {w w' : World} {lo : Nat} {A : Option Addr} {l : Shs} (h : ShL w A l) (hb : Below w.heap.size w w') : ShL w' A l := h.more hb

end Go.Proofs.YtkcdifanhdakhaaDoor
