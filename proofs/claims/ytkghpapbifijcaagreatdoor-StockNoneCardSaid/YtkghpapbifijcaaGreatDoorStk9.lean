/- An inventory as its callers see it: what every call answers, and what it leaves alone. -/
import Derived.Test.YtkghpapbifijcaaGreatDoorStk8
namespace Go.Proofs.YtkghpapbifijcaaGreatDoor
open Go.RowKit Go.Shelf Go.Maps Go.MapKept
set_option linter.unusedSimpArgs false
set_option linter.unusedVariables false

/-! ### what the errors say -/
theorem sel_zero' {g : Stk} {is : List Lid} {c : ByteArray} {m : Int} (h : selP g is c m = 0) : 1 ≤ m ∧ is ≠ [] ∧ is.Nodup ∧ ∀ i ∈ is, ∃ q, g i = some q ∧ q.cl = false ∧ q.has c = true ∧ m ≤ q.left c := by
  unfold selP at h
  split at h
  · rename_i h0; exact absurd h h0
  rename_i h0
  have h0 : chkE g is m = 0 := by omega
  split at h
  · cases h
  rename_i h1
  split at h
  · cases h
  rename_i h2
  split at h
  · cases h
  rename_i h3
  obtain ⟨k1, k2, k3, k4⟩ := chk_zero h0
  refine ⟨k1, k2, k3, fun i hi => ?_⟩
  obtain ⟨q, hq⟩ := k4 i hi
  have t1 := any_no (by simpa using h1 : is.any (onL g fun q => q.cl) = false) i hi
  have t2 := any_no (by simpa using h2 : is.any (onL g fun q => !q.has c) = false) i hi
  have t3 := any_no (by simpa using h3 : is.any (onL g fun q => decide (q.left c < m)) = false) i hi
  unfold onL at t1 t2 t3
  rw [hq] at t1 t2 t3
  exact ⟨q, hq, t1, by simpa using t2, by simpa using t3⟩
theorem can_zero' {g : Stk} {is : List Lid} {c : ByteArray} {m : Int} (h : canP g is c m = 0) : 1 ≤ m ∧ is ≠ [] ∧ is.Nodup ∧ ∀ i ∈ is, ∃ q, g i = some q ∧ q.has c = true ∧ m ≤ q.sold c := by
  unfold canP at h
  split at h
  · rename_i h0; exact absurd h h0
  rename_i h0
  have h0 : chkE g is m = 0 := by omega
  split at h
  · cases h
  rename_i h2
  split at h
  · cases h
  rename_i h3
  obtain ⟨k1, k2, k3, k4⟩ := chk_zero h0
  refine ⟨k1, k2, k3, fun i hi => ?_⟩
  obtain ⟨q, hq⟩ := k4 i hi
  have t2 := any_no (by simpa using h2 : is.any (onL g fun q => !q.has c) = false) i hi
  have t3 := any_no (by simpa using h3 : is.any (onL g fun q => decide (q.sold c < m)) = false) i hi
  unfold onL at t2 t3
  rw [hq] at t2 t3
  exact ⟨q, hq, by simpa using t2, by simpa using t3⟩
theorem OkG.sel {K : Int} {cs : List Cf} {g : Stk} (h : OkG K cs g) (is : List Lid) (c : ByteArray) (m : Int) : OkG (K + max m 0) cs (selG g is c m) := by
  unfold selG
  have h' := h.mono (show K ≤ K + max m 0 by have := Int.le_max_right m 0; omega)
  split
  · rename_i h0
    obtain ⟨k1, _, k3, k4⟩ := sel_zero' h0
    refine OkG.addsG is g h' k3 (fun i hi => ?_)
    obtain ⟨q, hq, _, hc, _⟩ := k4 i hi
    exact ⟨q, hq, (h.leg i q hq).1, hc, by have := (h.leg i q hq).1.sold0 hc; omega⟩
  · exact h'
theorem OkG.can {K : Int} {cs : List Cf} {g : Stk} (h : OkG K cs g) (is : List Lid) (c : ByteArray) (m : Int) : OkG K cs (canG g is c m) := by
  unfold canG
  split
  · rename_i h0
    obtain ⟨k1, _, k3, k4⟩ := can_zero' h0
    have e : K + max (-m) 0 = K := by rw [Int.max_def]; split <;> omega
    have := OkG.addsG (c := c) (m := -m) is g (h.mono (show K ≤ K + max (-m) 0 by rw [e]; exact Int.le_refl _)) k3 (fun i hi => by
      obtain ⟨q, hq, hc, hs⟩ := k4 i hi
      exact ⟨q, hq, (h.leg i q hq).1, hc, by omega⟩)
    rw [e] at this
    exact this
  · exact h
theorem OkG.clo {K : Int} {cs : List Cf} {g : Stk} (h : OkG K cs g) (i : Lid) : OkG K cs (cloG g i) := by
  unfold cloG
  cases hq : g i with
  | none => exact h
  | some q =>
    have h1 := (h.leg i q hq).1
    exact h.upd ⟨h1.right, h1.small, h1.ok, h1.pos, h1.cls, h1.len, h1.each, h1.low, h1.tot⟩ (h.leg i q hq).2

/-! ### an inventory among other things -/
/-- an inventory whose blocks lie from N on, and not where F says -/
structure Ses (N : Nat) (R F : Nat → Prop) (B n : Nat) (cs : List Cf) (K : Int) (W : World) (g : Stk) (o : Own') : Prop where
  stk : StkAt W R o B n cs g
  ok : OkG K cs g
  low : ∀ k, o k ≠ .none → N ≤ k
  far : ∀ b, F b → b < W.heap.size ∧ o b = .none
  hN : N ≤ W.heap.size
def SesE (N : Nat) (R F : Nat → Prop) (B n : Nat) (cs : List Cf) (K : Int) (W : World) (g : Stk) : Prop := ∃ o, Ses N R F B n cs K W g o
/-- what a call changes: of what was there, only blocks from N on that are not F's -/
def Lv (N : Nat) (F : Nat → Prop) (w w' : World) : Prop := But w w' (fun k => N ≤ k ∧ ¬ F k)
theorem Lv.below {N : Nat} {F : Nat → Prop} {w w' : World} (h : Lv N F w w') (hN : N ≤ w.heap.size) : Below N w w' := But.below h hN (fun k hk hx => by omega)
theorem Lv.trans {N : Nat} {F : Nat → Prop} {w w1 w2 : World} (h : Lv N F w w1) (k : Lv N F w1 w2) : Lv N F w w2 := But.trans h k (fun _ _ h => h)
theorem Lv.of {N : Nat} {F : Nat → Prop} {w w' : World} (h : Below w.heap.size w w') : Lv N F w w' := But.of_below h
theorem Lv.refl (N : Nat) (F : Nat → Prop) (w : World) : Lv N F w w := But.refl _ _
theorem Lv.cell {N : Nat} {F : Nat → Prop} {w w' : World} (h : Lv N F w w') {a : Addr} {x : Value} (hc : w.cell? a = some x) (hF : F a.block ∨ a.block < N) : w'.cell? a = some x := but_cell h hc (fun hx => by
  rcases hF with hF | hF
  · exact hx.2 hF
  · omega)
theorem Lv.row {N : Nat} {F : Nat → Prop} {α : Type} {sz : Nat} {enc : α → List Value} {w w' : World} {A : Option Addr} {l : List α} (h : Lv N F w w') (hr : RowIn (fun k => F k ∨ k < N) sz enc w A l) : RowIn (fun k => F k ∨ k < N) sz enc w' A l := hr.but h (fun k hk hF => by
  rcases hF with hF | hF
  · exact hk.2 hF
  · omega)
theorem Ses.mut {N : Nat} {R F : Nat → Prop} {B n : Nat} {cs : List Cf} {K : Int} {W : World} {g : Stk} {o : Own'} (h : Ses N R F B n cs K W g o) {k : Nat} (hm : MutB o k) : N ≤ k ∧ ¬ F k := by
  have h1 := (mut_not hm).1
  exact ⟨h.low k h1, fun hF => h1 (h.far k hF).2⟩
theorem Ses.lv {N : Nat} {R F : Nat → Prop} {B n : Nat} {cs : List Cf} {K : Int} {W w' : World} {g : Stk} {o : Own'} (h : Ses N R F B n cs K W g o) (hb : But W w' (MutB o)) : Lv N F W w' := ⟨hb.os, hb.tape, hb.output, hb.size, fun k hk hn => hb.block k hk (fun hm => hn (h.mut hm))⟩
theorem Ses.next {N : Nat} {R F : Nat → Prop} {B n n' : Nat} {cs : List Cf} {K K' : Int} {W w' : World} {g g' : Stk} {o o' : Own'} (h : Ses N R F B n cs K W g o) (hs : StkAt w' R o' B n' cs g') (hk : OkG K' cs g') (he : Ext W o o') (hb : But W w' (MutB o)) : Ses N R F B n' cs K' w' g' o' :=
  ⟨hs, hk, fun k hk => by
    by_cases hkW : k < W.heap.size
    · rcases he k hkW with e | e
      · exact h.low k (by rw [← e]; exact hk)
      · exact absurd e hk
    · have := h.hN; omega, fun b hb' => ⟨Nat.lt_of_lt_of_le (h.far b hb').1 hb.size, by
    rcases he b (h.far b hb').1 with e | e
    · rw [e]; exact (h.far b hb').2
    · exact e⟩, Nat.le_trans h.hN hb.size⟩
/-- nothing but growth; and blocks that are new may be kept from it -/
theorem SesE.more {N : Nat} {R F : Nat → Prop} {B n : Nat} {cs : List Cf} {K : Int} {W W' : World} {g : Stk} (h : SesE N R F B n cs K W g) (hb : Below W.heap.size W W') : SesE N R (fun k => F k ∨ (W.heap.size ≤ k ∧ k < W'.heap.size)) B n cs K W' g := by
  obtain ⟨o, h⟩ := h
  refine ⟨o, h.stk.more hb, h.ok, h.low, fun b hF => ?_, Nat.le_trans h.hN hb.size⟩
  rcases hF with hF | ⟨h1, h2⟩
  · exact ⟨Nat.lt_of_lt_of_le (h.far b hF).1 hb.size, (h.far b hF).2⟩
  · refine ⟨h2, ?_⟩
    cases e : o b with
    | none => rfl
    | _ => exact absurd ((h.stk.ro b (by rw [e]; exact fun h => nomatch h)).2) (by omega)
theorem SesE.less {N : Nat} {R F F' : Nat → Prop} {B n : Nat} {cs : List Cf} {K : Int} {W : World} {g : Stk} (h : SesE N R F B n cs K W g) (hF : ∀ k, F' k → F k) : SesE N R F' B n cs K W g := by
  obtain ⟨o, h⟩ := h
  exact ⟨o, h.stk, h.ok, h.low, fun b hb => h.far b (hF b hb), h.hN⟩
theorem SesE.grow {N : Nat} {R F : Nat → Prop} {B n : Nat} {cs : List Cf} {K : Int} {W W' : World} {g : Stk} (h : SesE N R F B n cs K W g) (hb : Below W.heap.size W W') : SesE N R F B n cs K W' g := (h.more hb).less (fun _ h => .inl h)
theorem SesE.mono {N : Nat} {R F : Nat → Prop} {B n : Nat} {cs : List Cf} {K K' : Int} {W : World} {g : Stk} (h : SesE N R F B n cs K W g) (hK : K ≤ K') : SesE N R F B n cs K' W g := by
  obtain ⟨o, h⟩ := h
  exact ⟨o, { h with ok := h.ok.mono hK }⟩
section
variable {N : Nat} {R F : Nat → Prop} {B n : Nat} {cs : List Cf} {K : Int} {W : World} {g : Stk}
theorem ses_open (h : SesE N R F B n cs K W g) (hK : 0 ≤ K) {i : Lid} (hi : OkD i) {s : ByteArray} (hs : s.size ≤ maxLen) (hn : n ≤ 1000) : Calls Tryz.prog 35 #[.pointer (some ⟨B, 0, none⟩), aggD i, .string s] W fun e w' => e = .returned (.int .i64 (opnE cs g i s)) ∧ SesE N R F B (n + 1) cs K w' (opnG cs g i s) ∧ Lv N F W w' := by
  obtain ⟨o, h⟩ := h
  refine (lopen_any R o B n cs g K i s W h.stk h.ok hK hi hs hn).mono ?_
  rintro e w' ⟨rfl, ⟨o', h1, h2⟩, h3, h4⟩
  exact ⟨rfl, ⟨o', h.next h1 h4 h2 h3⟩, h.lv h3⟩
theorem ses_close (h : SesE N R F B n cs K W g) {i : Lid} (hi : OkD i) : Calls Tryz.prog 36 #[.pointer (some ⟨B, 0, none⟩), aggD i] W fun e w' => e = .returned (.int .i64 (cloE g i)) ∧ SesE N R F B n cs K w' (cloG g i) ∧ Lv N F W w' := by
  obtain ⟨o, h⟩ := h
  refine (lclose_any R o B n cs g i W h.stk hi).mono ?_
  rintro e w' ⟨rfl, h1, h3⟩
  exact ⟨rfl, ⟨o, h.next h1 (h.ok.clo i) (Ext.refl _ _) h3⟩, h.lv h3⟩
theorem ses_resize (h : SesE N R F B n cs K W g) (hK : K ≤ 1000000000000) {i : Lid} (hi : OkD i) {s : ByteArray} (hs : s.size ≤ maxLen) : Calls Tryz.prog 29 #[.pointer (some ⟨B, 0, none⟩), aggD i, .string s] W fun e w' => e = .returned (.int .i64 (rszE cs g i s)) ∧ SesE N R F B n cs K w' (rszG cs g i s) ∧ Lv N F W w' := by
  obtain ⟨o, h⟩ := h
  refine (lresize_any R o B n cs g K i s W h.stk h.ok hK hi hs).mono ?_
  rintro e w' ⟨rfl, ⟨o', h1, h2⟩, h3, h4⟩
  exact ⟨rfl, ⟨o', h.next h1 h4 h2 h3⟩, h.lv h3⟩
theorem ses_sell (h : SesE N R F B n cs K W g) (hK : 0 ≤ K ∧ K ≤ 1000000000000) {m : Int} (hm : -1000000 ≤ m ∧ m ≤ 1000000) {is : List Lid} (hl : is.length ≤ 1000) (hok : ∀ i ∈ is, OkD i) {A : Option Addr} {cc : Nat} (hr : RowIn (fun k => F k ∨ k < N) 4 encD W A is) (c : ByteArray) : Calls Tryz.prog 23 #[.pointer (some ⟨B, 0, none⟩), .slice A is.length cc, .string c, .int .i64 m] W fun e w' => e = .returned (.int .i64 (selP g is c m)) ∧ SesE N R F B n cs (K + max m 0) w' (selG g is c m) ∧ Lv N F W w' := by
  obtain ⟨o, h⟩ := h
  refine (lsell_any R o B n cs g K A cc is c m W h.stk h.ok hK hm hl hok (fun W' hW => ((h.lv hW).row hr).rowL cc)).mono ?_
  rintro e w' ⟨rfl, h1, h3⟩
  exact ⟨rfl, ⟨o, h.next h1 (h.ok.sel is c m) (Ext.refl _ _) h3⟩, h.lv h3⟩
theorem ses_cancel (h : SesE N R F B n cs K W g) (hK : 0 ≤ K ∧ K ≤ 1000000000000) {m : Int} (hm : -1000000 ≤ m ∧ m ≤ 1000000) {is : List Lid} (hl : is.length ≤ 1000) (hok : ∀ i ∈ is, OkD i) {A : Option Addr} {cc : Nat} (hr : RowIn (fun k => F k ∨ k < N) 4 encD W A is) (c : ByteArray) : Calls Tryz.prog 37 #[.pointer (some ⟨B, 0, none⟩), .slice A is.length cc, .string c, .int .i64 m] W fun e w' => e = .returned (.int .i64 (canP g is c m)) ∧ SesE N R F B n cs K w' (canG g is c m) ∧ Lv N F W w' := by
  obtain ⟨o, h⟩ := h
  refine (lcanc_any R o B n cs g K A cc is c m W h.stk h.ok hK hm hl hok (fun W' hW => ((h.lv hW).row hr).rowL cc)).mono ?_
  rintro e w' ⟨rfl, h1, h3⟩
  exact ⟨rfl, ⟨o, h.next h1 (h.ok.can is c m) (Ext.refl _ _) h3⟩, h.lv h3⟩
theorem ses_left (h : SesE N R F B n cs K W g) {i : Lid} (hi : OkD i) (c : ByteArray) : Calls Tryz.prog 21 #[.pointer (some ⟨B, 0, none⟩), aggD i, .string c] W fun e w' => e = .returned (.int .i64 (leftG g i c)) ∧ Below W.heap.size W w' := by
  obtain ⟨o, h⟩ := h
  exact lleft_any R o B n cs g K i c W h.stk h.ok hi
theorem ses_free (h : SesE N R F B n cs K W g) (hK : K ≤ 1000000000000) {i : Lid} (hi : OkD i) (c : ByteArray) : Calls Tryz.prog 38 #[.pointer (some ⟨B, 0, none⟩), aggD i, .string c] W fun e w' => e = .returned (.int .i64 (freeG g i c)) ∧ Below W.heap.size W w' := by
  obtain ⟨o, h⟩ := h
  exact free_any R o B n cs g K i c W h.stk h.ok hK hi
theorem ses_excess (h : SesE N R F B n cs K W g) {i : Lid} (hi : OkD i) : Calls Tryz.prog 17 #[.pointer (some ⟨B, 0, none⟩), aggD i] W fun e w' => e = .returned (.int .i64 (excG g i)) ∧ Below W.heap.size W w' := by
  obtain ⟨o, h⟩ := h
  exact lexcess_any R o B n cs g K i W h.stk h.ok hi
theorem ses_equip (h : SesE N R F B n cs K W g) {i : Lid} (hi : OkD i) : Calls Tryz.prog 28 #[.pointer (some ⟨B, 0, none⟩), aggD i] W fun e w' => e = .returned (eqpG g i) ∧ Below W.heap.size W w' := by
  obtain ⟨o, h⟩ := h
  exact equip_any R o B n cs g K i W h.stk h.ok hi
theorem ses_counts (h : SesE N R F B n cs K W g) {i : Lid} (hi : OkD i) : Calls Tryz.prog 26 #[.pointer (some ⟨B, 0, none⟩), aggD i] W fun e w' => ∃ v, e = .returned v ∧ CntL w' v (cntG g i) ∧ Below W.heap.size W w' := by
  obtain ⟨o, h⟩ := h
  exact counts_any R o B n cs g K i W h.stk h.ok hi
theorem ses_legs (h : SesE N R F B n cs K W g) (hn : n ≤ 1000) : Calls Tryz.prog 39 #[.pointer (some ⟨B, 0, none⟩)] W fun e w' => ∃ v zs, e = .returned v ∧ LidL w' v zs ∧ zs.length ≤ 1000 ∧ LegsR g zs ∧ Below W.heap.size W w' := by
  obtain ⟨o, h⟩ := h
  exact legs_any R o B n cs g W h.stk hn
end
theorem ses_new {N : Nat} {R : Nat → Prop} {o : Own'} {B : Nat} {cs : List Cf} {W : World} (h : StkAt W R o B 0 cs (fun _ => none)) (hlow : ∀ k, o k ≠ .none → N ≤ k) (hN : N ≤ W.heap.size) : SesE N R (fun _ => False) B 0 cs 0 W (fun _ => none) :=
  ⟨o, h, ⟨fun i q hq => by cases hq⟩, hlow, fun b hb => hb.elim, hN⟩
end Go.Proofs.YtkghpapbifijcaaGreatDoor
