/- Looking a leg up; the small questions: isVoid, find, place, has, sold. -/
import Derived.Test.YtkghpapbifijcaaGreatDoorStkA
import Derived.DeepKeys4
import Derived.WideKeyPair
namespace Go.Proofs.YtkghpapbifijcaaGreatDoor
open Go.RowKit Go.Shelf Go.Maps Go.MapKept
open Go.WideElems (Fit rd rg pl rd_key rd_val rg_of rd_mk)
set_option linter.unusedSimpArgs false
set_option linter.unusedVariables false

theorem laidOutS : laidOutB Tryz.prog = true := by kernel_rfl
theorem rowLid : lidT < Tryz.prog.types.size := by decide +kernel
theorem lidK : Keyed Tryz.prog lidT := Keyed.of_law (deep_law_laid laidOutS (m := 2) (by omega) rowLid (by kernel_rfl) (by kernel_rfl))
theorem key_lid (c : Lid) (h : OkD c) : ∃ kl, keyOf Tryz.prog lidT (aggD c) = some kl := by
  have hu := Tryz.underlying43
  have hs := Tryz.underlying9
  have hi := Tryz.underlying3
  have hkt : Tryz.prog.keyType lidT = true := by kernel_rfl
  have hc : Tryz.prog.cellsOf lidT = 4 := by kernel_rfl
  have hc1 : Tryz.prog.cellsOf 9 = 1 := by kernel_rfl
  have hc2 : Tryz.prog.cellsOf 3 = 1 := by kernel_rfl
  have w1 : (Lit.int .i64 c.num).wf = true := WalkArith.wf_i64 (by have := h.n0; have := h.n1; omega)
  have w2 : (Lit.int .i64 c.day).wf = true := WalkArith.wf_i64 (by have := h.d0; have := h.d1; omega)
  obtain ⟨m, hm⟩ : ∃ m, Tryz.prog.types.size = m + 1 := ⟨Tryz.prog.types.size - 1, by decide +kernel⟩
  refine ⟨.string (keyBytes [.string c.car.data.toList, .int .i64 c.num, .int .i64 c.day, .string c.frm.data.toList]), ?_⟩
  unfold keyOf aggD
  simp only [hu]
  rw [if_pos (by simp [hkt, Value.formed, hu, hc]), hm]
  unfold Program.keyLits
  simp only [hu, Value.cells]
  rw [if_pos (by simp [hc])]
  simp [List.mapM_cons, Program.keyLits, hs, hi, hc1, hc2, h.car, h.frm, w1, w2]
abbrev lgmT : TypeId := 69
abbrev lgpT : TypeId := 89
theorem zeroLg (w : World) : (zeroValue lgpT).run Tryz.prog w = .ok (.pointer none) w := by kernel_rfl
/-- what a look-up gives -/
def lkV (g : Option Nat) : Value := .pointer (g.map fun a => ⟨a, 0, none⟩)
theorem LegM.look {w : World} {o : Own'} {b n : Nat} {g : Stk} (h : LegM w o b n g) {i : Lid} (hi : OkD i) :
    ∃ p : Option Nat, (∀ W, Below w.heap.size w W → (Instr.lookup lgmT (.map (some b)) (aggD i) false).run Tryz.prog W = .ok (lkV p) W) ∧ (match g i with
      | some q => ∃ a, p = some a ∧ LegAt w o i a q
      | none => p = none) := by
  obtain ⟨hh, ⟨es, clock, hb, F, hs, hkk, hg⟩, h3⟩ := h
  obtain ⟨kl, hkey⟩ := key_lid i hi
  have h4 := h3 i
  have hlt := (Array.getElem?_eq_some_iff.1 hb).1
  have look := fun (W : World) (hW : Below w.heap.size w W) => Maps.fit_look false lidK Tryz.underlying69 (zeroLg W) ((hW.block b hlt).trans hb) F hkey
  revert h4
  cases g i with
  | none =>
    intro h4
    refine ⟨none, fun W hW => ?_, rfl⟩
    rcases look W hW with ⟨hrun, _, _⟩ | ⟨e0, y, hm, he, hrun, _⟩
    · rw [hrun]; rfl
    · have hs2 : hh i = some e0.val := (hg i _).2 ⟨e0, hm, he, rfl⟩
      rw [h4] at hs2
      cases hs2
  | some q =>
    rintro ⟨a, e, ha⟩
    refine ⟨some a, fun W hW => ?_, a, rfl, ha⟩
    rcases look W hW with ⟨hrun, hno, _⟩ | ⟨e0, y, hm, he, hrun, _⟩
    · obtain ⟨x, hx, hxe, _⟩ := (hg i _).1 e
      exact absurd hxe (hno x hx)
    · have hs2 : hh i = some e0.val := (hg i _).2 ⟨e0, hm, he, rfl⟩
      rw [hs2] at e
      have e2 : e0.val = lkV (some a) := Option.some.inj e
      rw [hrun, e2]; rfl
theorem nilM_no (m : Nat) (w : World) : (binOp .eql lgmT (.map (some m)) (.map none)).run Tryz.prog w = .ok (.bool false) w := by kernel_rfl
theorem nilM_yes (w : World) : (binOp .eql lgmT (.map none) (.map none)).run Tryz.prog w = .ok (.bool true) w := by kernel_rfl
/-- an inventory that New did not return -/
def VoidS (w : World) (p : Option Addr) : Prop := p = none ∨ ∃ B, p = some ⟨B, 0, none⟩ ∧ w.cell? ⟨B, 1, none⟩ = some (.map none)
theorem VoidS.more {w w' : World} {p : Option Addr} (h : VoidS w p) (hb : Below w.heap.size w w') : VoidS w' p := by
  rcases h with h | ⟨B, e, h⟩
  · exact .inl h
  · exact .inr ⟨B, e, bel_cell hb h⟩
set_option maxRecDepth 100000 in
set_option maxHeartbeats 400000 in
theorem isVoid_no (B m : Nat) (w : World) (h : w.cell? ⟨B, 1, none⟩ = some (.map (some m))) : Calls Tryz.prog 67 #[.pointer (some ⟨B, 0, none⟩)] w fun e w' => e = .returned (.bool false) ∧ w = w' := by
  have hn := nilM_no m
  go_enter Tryz.func67, Tryz.ntmps67
  go_wp2
  go_ret
  exact ⟨rfl, rfl⟩
set_option maxRecDepth 100000 in
set_option maxHeartbeats 400000 in
theorem isVoid_yes (p : Option Addr) (w : World) (h : VoidS w p) : Calls Tryz.prog 67 #[.pointer p] w fun e w' => e = .returned (.bool true) ∧ w = w' := by
  rcases h with rfl | ⟨B, rfl, h⟩
  · have hn := nilM_yes
    go_enter Tryz.func67, Tryz.ntmps67
    go_wp2
    go_ret
    exact ⟨rfl, rfl⟩
  · have hn := nilM_yes
    go_enter Tryz.func67, Tryz.ntmps67
    go_wp2
    go_ret
    exact ⟨rfl, rfl⟩
theorem lid_new (w : World) (i : Lid) : (w.alloc (.cells #[.string i.car, .int .i64 i.num, .int .i64 i.day, .string i.frm] lidT)).cell? ⟨w.heap.size, 0, none⟩ = some (.string i.car) ∧ (w.alloc (.cells #[.string i.car, .int .i64 i.num, .int .i64 i.day, .string i.frm] lidT)).cell? ⟨w.heap.size, 1, none⟩ = some (.int .i64 i.num) ∧ (w.alloc (.cells #[.string i.car, .int .i64 i.num, .int .i64 i.day, .string i.frm] lidT)).cell? ⟨w.heap.size, 2, none⟩ = some (.int .i64 i.day) ∧ (w.alloc (.cells #[.string i.car, .int .i64 i.num, .int .i64 i.day, .string i.frm] lidT)).cell? ⟨w.heap.size, 3, none⟩ = some (.string i.frm) :=
  ⟨(cells_new w _ lidT 0).trans rfl, (cells_new w _ lidT 1).trans rfl, (cells_new w _ lidT 2).trans rfl, (cells_new w _ lidT 3).trans rfl⟩
/-- what find hands back -/
def FoundL (w' : World) (o : Own') (i : Lid) (q : Option Lg) (e : Ending) : Prop := ∃ p : Option Nat, e = .returned (lkV p) ∧ (match q with
  | some q => ∃ a, p = some a ∧ LegAt w' o i a q
  | none => p = none)
set_option maxRecDepth 100000 in
set_option maxHeartbeats 1000000 in
theorem find_void (p : Option Addr) (i : Lid) (w : World) (h : VoidS w p) : Calls Tryz.prog 56 #[.pointer p, aggD i] w fun e w' => e = .returned (.pointer none) ∧ Below w.heap.size w w' := by
  have hbA := bel_alloc w (.cells #[.string i.car, .int .i64 i.num, .int .i64 i.day, .string i.frm] lidT)
  have K := isVoid_yes p _ (h.more hbA)
  go_enter Tryz.func56, Tryz.ntmps56
  go_wp2_with (go_at_call 67; refine K.mono ?_; rintro e w' ⟨rfl, rfl⟩)
  go_ret
  exact ⟨rfl, hbA⟩
set_option maxRecDepth 100000 in
set_option maxHeartbeats 1000000 in
theorem lfind_any (R : Nat → Prop) (o : Own') (B n : Nat) (cs : List Cf) (g : Stk) (i : Lid) (w : World) (hS : StkAt w R o B n cs g) (hi : OkD i) :
    Calls Tryz.prog 56 #[.pointer (some ⟨B, 0, none⟩), aggD i] w fun e w' => FoundL w' o i (g i) e ∧ Below w.heap.size w w' := by
  have hbA := bel_alloc w (.cells #[.string i.car, .int .i64 i.num, .int .i64 i.day, .string i.frm] lidT)
  have hS' := hS.more hbA
  obtain ⟨l0, l1, l2, l3⟩ := lid_new w i
  obtain ⟨mc, ml, nc, c0, c1, _, _, _, _, hM⟩ := hS'.box
  have K := isVoid_no B ml _ c1
  obtain ⟨p, hrun, hp⟩ := hM.look hi
  have HP := Lib.hid hp
  clear hp hM hS hS'
  generalize hpv : lkV p = pv at hrun
  have HRUN := Lib.hid hrun
  clear hrun
  have HPV := Lib.hid hpv
  clear hpv
  go_enter Tryz.func56, Tryz.ntmps56
  go_upto_region 1 with fail
  generalize w.alloc (.cells #[.string i.car, .int .i64 i.num, .int .i64 i.day, .string i.frm] lidT) = w5 at *
  go_upto_region 3 with (go_at_call 67; refine K.mono ?_; rintro e w' ⟨rfl, rfl⟩)
  have q0 := SW.cell l0
  have q1 := SW.cell l1
  have q2 := SW.cell l2
  have q3 := SW.cell l3
  have q4 := SW.cell c1
  have hrun' : ∀ x : Wd (SW w5), (Instr.lookup lgmT (.map (some ml)) (aggD i) false).run Tryz.prog x.w = .ok pv x.w := fun x => HRUN.out x.w x.ok
  clear l0 l1 l2 l3 c0 c1
  have hNe : Nonempty (Wd (SW w5)) := ⟨⟨_, SW.drew _⟩⟩
  refine quietS (S := SW w5) (by kernel_rfl) (by kernel_rfl) (SW.drew _) ?_
  repeat (first | go_big_quiet_skip | (go_big_quiet_want; go_big_quiet_op; first | go_big_quiet_on | go_big_quiet_call ((fail))))
  refine wpQuiet_nil ?_
  rintro W ⟨⟨_, hW⟩, rfl⟩
  go_wp2
  go_ret
  exact ⟨⟨p, by rw [HPV.out]; rfl, by
    have := HP.out
    revert this
    cases g i with
    | none => exact id
    | some q => rintro ⟨a, e, ha⟩; exact ⟨a, e, ha.but (Below.but (fun _ => False) hW) (fun k hk => hk.elim)⟩⟩, hbA.trans (Below.mono hW hbA.size)⟩
end Go.Proofs.YtkghpapbifijcaaGreatDoor
