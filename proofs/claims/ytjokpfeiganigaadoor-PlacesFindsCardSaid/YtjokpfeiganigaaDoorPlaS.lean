/- Walk of shortest. -/
import Derived.Test.YtjokpfeiganigaaDoorPlaO
namespace Go.Proofs.YtjokpfeiganigaaDoor
open Go.RowKit Go.Shelf
set_option linter.unusedSimpArgs false
set_option linter.unusedVariables false

def shortR : Option Nat → Value
  | some n => .tuple #[.int .i64 (n : Int), .bool true]
  | none => .tuple #[.int .i64 0, .bool false]
/-- the map of the cities that were reached -/
def gR (R : ByteArray → Bool) (c : ByteArray) : Option Value := if R c then some (.bool true) else none
theorem gR_put (R : ByteArray → Bool) (c : ByteArray) : (fun c' => if c' = c then some (Value.bool true) else gR R c') = gR (fun y => R y || decide (y = c)) := by
  funext c'
  unfold gR
  by_cases e : c' = c
  · simp [e]
  · simp [e]
theorem gR_get (R : ByteArray → Bool) (c : ByteArray) : (gR R c).getD (.bool false) = .bool (R c) := by
  unfold gR
  cases R c <;> rfl
/-- what the search keeps: x's bound, the queue, the cities that were reached -/
structure Sch (E : List Edg) (a to : ByteArray) (w1 wr : World) (Q r cap : Nat) (cur : Array Value) (l : List Stp) (n : Nat) (R : ByteArray → Bool) (kx : Nat) : Prop where
  hq : HQ wr Q r cap cur l
  heap : HeapB l l.length
  dij : Dij E a to (fun c => R c = true) l
  map : MapS wr w1.heap.size n (gR R)
  bel : Below w1.heap.size w1 wr
  low : w1.heap.size < r
  tot : l.length + rem E R = kx
  kle : kx ≤ 121
  num : n + kx ≤ 121
  mi : ∀ x ∈ l, x.2 + 20000 * kx ≤ 2420000
  str : ∀ x ∈ l, x.1.size ≤ maxLen
theorem NM.form {w : World} {lo b n : Nat} {E : List Edg} {V : ByteArray → Value} (h : NM w lo b n E V) (c : ByteArray) : ∃ A cap, V c = .slice A (adj E c).length cap ∧ ∀ k, k < (adj E c).length → ∃ g, A = some ⟨g, 0, none⟩ ∧ g < w.heap.size ∧ w.cell? ⟨g, k * 2, none⟩ = some (.string (el (adj E c) k).1) ∧ w.cell? ⟨g, k * 2 + 1, none⟩ = some (.int .i64 ((el (adj E c) k).2 : Int)) := by
  have ho := h.own c
  rcases ho.2 with ⟨h1, h2⟩ | ⟨g, cap, cur, h1, h2, h3, h4⟩
  · exact ⟨none, 0, by rw [h1, h2], fun k hk => absurd hk (by omega)⟩
  · refine ⟨_, cap, h1, fun k hk => ⟨g, rfl, (Array.getElem?_eq_some_iff.1 h3).1, ?_⟩⟩
    have hc := cellsS_at (adj E c) k hk
    have hadd : ∀ j, (⟨g, 0, none⟩ : Addr).add j = ⟨g, j, none⟩ := fun j => by unfold Addr.add; split <;> simp_all
    have a0 := ho.cells (g := g) (by rw [h1]; rfl) _ _ hc.1
    have a1 := ho.cells (g := g) (by rw [h1]; rfl) _ _ hc.2
    rw [hadd] at a0 a1
    exact ⟨a0, a1⟩
theorem el_mem {l : List Stp} {k : Nat} (h : k < l.length) : el l k ∈ l := List.mem_of_getElem? (el_some h)

theorem HQ.grown {w w' : World} {row : Option Nat} {Q r cap : Nat} {cur : Array Value} {l : List Stp} (h : HQ w Q r cap cur l) (hg : w.grownBy w' row) (h1 : some Q ≠ row) (h2 : some r ≠ row) : HQ w' Q r cap cur l :=
  ⟨(hg.block Q h.lt.1 h1).trans h.box, (hg.block r h.lt.2 h2).trans h.row, h.le, h.max, h.size, h.take, h.ne⟩
/-- what the inner loop keeps -/
structure Inn (w1 W : World) (Q N r cap : Nat) (cur : Array Value) (lq base : List Stp) (n : Nat) (R : ByteArray → Bool) (x : Stp) : Prop where
  hq : HQ W Q r cap cur lq
  heap : HeapB lq lq.length
  perm : lq.Perm base
  map : MapS W w1.heap.size n (gR R)
  bel : Below w1.heap.size w1 W
  low : w1.heap.size < r
  nr : N ≠ r
  c0 : W.cell? ⟨N, 0, none⟩ = some (.string x.1)
  c1 : W.cell? ⟨N, 1, none⟩ = some (.int .i64 (x.2 : Int))
/-- the world behind the queue's making -/
def W3 (w : World) (a : ByteArray) : World := ((w.alloc (.map #[] 0)).alloc (.cells #[.string a, .int .i64 0] stopT)).alloc (.cells #[.slice (some ⟨w.heap.size + 1, 0, none⟩) 1 1] queueT)
theorem Sch.init (E : List Edg) (a to : ByteArray) (w : World) (hE : E.length ≤ 120) (ha : a.size ≤ maxLen) : Sch E a to w (W3 w a) (w.heap.size + 1 + 1) (w.heap.size + 1) 1 #[.string a, .int .i64 0] [(a, 0)] 0 (fun _ => false) (1 + E.length) := by
  have h1 := heap_alloc_new w (.map #[] 0)
  have h2 := heap_alloc_new (w.alloc (.map #[] 0)) (.cells #[.string a, .int .i64 0] stopT)
  have h3 := heap_alloc_new ((w.alloc (.map #[] 0)).alloc (.cells #[.string a, .int .i64 0] stopT)) (.cells #[.slice (some ⟨w.heap.size + 1, 0, none⟩) 1 1] queueT)
  have b1 := bel_alloc w (.map #[] 0)
  have b2 := bel_alloc (w.alloc (.map #[] 0)) (.cells #[.string a, .int .i64 0] stopT)
  have b3 := bel_alloc ((w.alloc (.map #[] 0)).alloc (.cells #[.string a, .int .i64 0] stopT)) (.cells #[.slice (some ⟨w.heap.size + 1, 0, none⟩) 1 1] queueT)
  simp only [World.size_alloc] at h2 h3
  have m0 : MapS (w.alloc (.map #[] 0)) w.heap.size 0 (gR fun _ => false) := MapK.made w _ _ _
  refine ⟨⟨?_, ?_, by simp, by unfold maxLen; simp, by simp, by simp [cellsS], by omega⟩, heap_one _, ?_, (m0.more b2).more b3, ?_, by omega, ?_, by omega, by omega, ?_, ?_⟩
  · exact h3
  · exact (b3.block _ (by simp)).trans h2
  · have := Dij.init E a to
    simpa using this
  · exact (b1.trans (b2.mono b1.size)).trans (b3.mono (by simp; omega))
  · rw [rem_none]; rfl
  · intro x hx; simp at hx; subst hx; simp; omega
  · intro x hx; simp at hx; subst hx; exact ha

end Go.Proofs.YtjokpfeiganigaaDoor
