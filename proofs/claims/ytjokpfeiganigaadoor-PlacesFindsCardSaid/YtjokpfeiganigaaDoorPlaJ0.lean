/- Walks of container/heap over the queue. -/
import Derived.Test.YtjokpfeiganigaaDoorPlaI
namespace Go.Proofs.YtjokpfeiganigaaDoor
open Go.RowKit Go.Shelf
set_option linter.unusedSimpArgs false
set_option linter.unusedVariables false

abbrev ptrT : TypeId := 116
abbrev encQ (Q : Nat) : Value := .iface ptrT (.pointer (some ⟨Q, 0, none⟩))
theorem m_len {w : World} {Q : Nat} {v : Value} (h : w.cell? ⟨Q, 0, none⟩ = some v) : (method 302 ptrT (.pointer (some ⟨Q, 0, none⟩)) "Len").run Tryd.prog w = .ok (76, v) w := by
  have e : (method 302 ptrT (.pointer (some ⟨Q, 0, none⟩)) "Len").run Tryd.prog w = (Sem.load Mode.plain ⟨Q, 0, none⟩ (fun v => Sem.pure (76, v))).run Tryd.prog w := by kernel_rfl
  rw [e]
  simp [Sem.run, h]
theorem m_less {w : World} {Q : Nat} {v : Value} (h : w.cell? ⟨Q, 0, none⟩ = some v) : (method 302 ptrT (.pointer (some ⟨Q, 0, none⟩)) "Less").run Tryd.prog w = .ok (162, v) w := by
  have e : (method 302 ptrT (.pointer (some ⟨Q, 0, none⟩)) "Less").run Tryd.prog w = (Sem.load Mode.plain ⟨Q, 0, none⟩ (fun v => Sem.pure (162, v))).run Tryd.prog w := by kernel_rfl
  rw [e]
  simp [Sem.run, h]
theorem m_swap {w : World} {Q : Nat} {v : Value} (h : w.cell? ⟨Q, 0, none⟩ = some v) : (method 302 ptrT (.pointer (some ⟨Q, 0, none⟩)) "Swap").run Tryd.prog w = .ok (165, v) w := by
  have e : (method 302 ptrT (.pointer (some ⟨Q, 0, none⟩)) "Swap").run Tryd.prog w = (Sem.load Mode.plain ⟨Q, 0, none⟩ (fun v => Sem.pure (165, v))).run Tryd.prog w := by kernel_rfl
  rw [e]
  simp [Sem.run, h]
theorem m_pop (Q : Nat) (w : World) : (method 302 ptrT (.pointer (some ⟨Q, 0, none⟩)) "Pop").run Tryd.prog w = .ok (163, .pointer (some ⟨Q, 0, none⟩)) w := by kernel_rfl
theorem m_push (Q : Nat) (w : World) : (method 302 ptrT (.pointer (some ⟨Q, 0, none⟩)) "Push").run Tryd.prog w = .ok (164, .pointer (some ⟨Q, 0, none⟩)) w := by kernel_rfl

/-- behind a swap -/
theorem swapq_any {Q r cap : Nat} {cur : Array Value} {l : List Stp} (i j : Nat) {w : World} (h : HQ w Q r cap cur l) (hi : i < l.length) (hj : j < l.length) :
    Calls Tryd.prog 165 #[.slice (some ⟨r, 0, none⟩) l.length cap, .int .i64 i, .int .i64 j] w fun e w' => e = .returned (.tuple #[]) ∧ ∃ cur', HQ w' Q r cap cur' (swapL l i j) ∧ But w w' (fun k => k = r) :=
  (swap_any Q r cap cur l i j w h hi hj).mono (by
    rintro e w' ⟨rfl, rfl⟩
    obtain ⟨⟨cur', h1⟩, h2⟩ := h.swapped i j hi hj
    exact ⟨rfl, cur', h1.more ((Below.refl _ _).drew), h2.trans (But.of_below (X := fun k => k = r) (Below.refl _ _).drew) (fun _ _ h => h)⟩)


end Go.Proofs.YtjokpfeiganigaaDoor
