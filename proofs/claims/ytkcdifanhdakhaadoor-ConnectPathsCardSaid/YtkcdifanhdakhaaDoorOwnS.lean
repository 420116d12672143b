/- 'append(v, x...)' for rows of a call's own, whatever x holds. -/
import Derived.Test.YtkcdifanhdakhaaDoorOwnR
import Derived.Laws.OwnMore
namespace Go.Proofs.YtkcdifanhdakhaaDoor
open Go.RowKit Go.Shelf
set_option linter.unusedSimpArgs false
set_option linter.unusedVariables false

section
variable {α : Type} {enc : α → List Value} {e : TypeId} {sz B : Nat} {w w' : World} {v : Value} {l : List α} {P : Program} {t : TypeId}
theorem run_app0 (T : RT P t e sz enc) (ty : TypeId) (h : ROwn e sz enc B w v l) (A : Option Addr) (c : Nat) : (Builtin.append_ #[t, t] ty #[v, .slice A 0 c]).run P w = .ok v w := by
  obtain ⟨z, bytes, hinfo, hzc, hby⟩ := T.info
  obtain ⟨i, hi, hz, hz1, hz2⟩ := info_parts hinfo
  have ht := T.ht
  rcases h.own.2 with ⟨rfl, h1⟩ | ⟨g, cap, cur, rfl, _, _, hnc, _⟩
  · cases A <;> simp [Builtin.append_, run_underlying ht, sizeOf, typeInfo, hi, Builtin.lenOf, Builtin.firstCells, h1, loadCells, loadCellsFrom]
  · cases A <;> simp [Builtin.append_, run_underlying ht, sizeOf, typeInfo, hi, Builtin.lenOf, Builtin.firstCells, hnc, storeCells, loadCells, loadCellsFrom]
theorem wp_rappl (T : RT P t e sz enc) {o : Oper} {a : Act} {K : Act → World → Prop} {Q : Exit → Act → World → Prop} (s x : Operand)
    (ho : o.op = .call { callee := .builtin .append, args := #[s, x], argTypes := #[t, t] }) (h0 : ROwn e sz enc B w v l) (hs : a.eval s = v) (m : List α) (u : Value) (hx : a.eval x = u) (hm : RowL sz enc w u m)
    (hlim : l.length + m.length ≤ 100000000)
    (h : ∀ v' w', ROwn e sz enc B w' v' (l ++ m) → Chg w w' v v' → K (a.put o.dst v') w') : o.wp P a w K Q := by
  obtain ⟨A, c, rfl, hm⟩ := hm
  rcases hm with rfl | ⟨b, off, rfl, hlt, hc⟩
  · have hr := run_app0 T o.type h0 A c
    have hx : a.eval x = .slice A 0 c := hx
    unfold Oper.wp execOp
    simp only [ho, resolve, invoke, builtin, Sem.run_bind, Sem.run_pure, Result.andThen_ok, List.map_toArray, List.map_cons, List.map_nil, hs, hx, hr]
    exact h v w (by rw [List.append_nil]; exact h0) (Chg.refl _ _)
  · rcases Nat.eq_zero_or_pos m.length with h1 | h1
    · have : m = [] := List.eq_nil_of_length_eq_zero h1
      subst this
      have hr := run_app0 T o.type h0 (some ⟨b, off, none⟩) c
      have hx : a.eval x = .slice (some ⟨b, off, none⟩) 0 c := hx
      unfold Oper.wp execOp
      simp only [ho, resolve, invoke, builtin, Sem.run_bind, Sem.run_pure, Result.andThen_ok, List.map_toArray, List.map_cons, List.map_nil, hs, hx, hr]
      exact h v w (by rw [List.append_nil]; exact h0) (Chg.refl _ _)
    · obtain ⟨z, bytes, hinfo, hzc, hby⟩ := T.info
      obtain ⟨i, hi, hz, hz1, hz2⟩ := info_parts hinfo
      refine wp_append_lies w s x t ho B e i z sz bytes T.ht hi hz hz1 hz2 hzc T.pos v l.length (cellsR enc l) hs h0.own ⟨b, off, none⟩ m.length c (cellsR enc m) hx
        (by rw [cellsR_len T.len]) (news_of_row T.len T.pos hc) ?_ h1 (by unfold maxLen; omega) ?_ h0.base w.heap.size rfl ?_
      · intro u hu
        obtain ⟨y, _, hy⟩ := List.mem_flatMap.1 hu
        exact T.one y u hy
      · have : (l.length + m.length) * bytes ≤ (l.length + m.length) * 1000 := Nat.mul_le_mul_left _ hby
        omega
      · intro g cap w' hown hgrow hloc _
        obtain ⟨r1, r2⟩ := h0.app T (Below.refl _ _) (m := m) rfl hown hgrow hloc
        exact h _ _ r1 r2
theorem step_rappl (T : RT P t e sz enc) {ops : Array Oper} {o : Oper} {a : Act} {K : Act → World → Prop} {Q : Exit → Act → World → Prop} {E : Prop} (hgd : o.guard = none) (s x : Operand)
    (ho : o.op = .call { callee := .builtin .append, args := #[s, x], argTypes := #[t, t] }) (h0 : ROwn e sz enc B w v l) (hs : a.eval s = v) (m : List α) (u : Value) (hx : a.eval x = u) (hm : RowL sz enc w u m)
    (hlim : l.length + m.length ≤ 100000000)
    (h : ∀ v' w', ROwn e sz enc B w' v' (l ++ m) → Chg w w' v v' → K (a.put o.dst v') w') : if Region.wanted o (yielded ops a.tmps) = true then Oper.wp P o a w K Q else E := by
  have hw : Region.wanted o (yielded ops a.tmps) = true := by simp [Region.wanted, hgd]
  rw [if_pos hw]
  exact wp_rappl T s x ho h0 hs m u hx hm hlim h
theorem wpList_rappl (T : RT P t e sz enc) {ops : Array Oper} {rest : List Oper} {o : Oper} {a : Act} {Q : Exit → Act → World → Prop} (hgd : o.guard = none) (s x : Operand)
    (ho : o.op = .call { callee := .builtin .append, args := #[s, x], argTypes := #[t, t] }) (h0 : ROwn e sz enc B w v l) (hs : a.eval s = v) (m : List α) (u : Value) (hx : a.eval x = u) (hm : RowL sz enc w u m)
    (hlim : l.length + m.length ≤ 100000000)
    (h : ∀ v' w', ROwn e sz enc B w' v' (l ++ m) → Chg w w' v v' → wpList P ops Q rest (a.put o.dst v') w') : wpList P ops Q (o :: rest) a w :=
  wpList_plain hgd fun _ hK => wp_rappl T s x ho h0 hs m u hx hm hlim fun v' w' h1 h2 => hK _ _ (h v' w' h1 h2)
end
end Go.Proofs.YtkcdifanhdakhaaDoor
