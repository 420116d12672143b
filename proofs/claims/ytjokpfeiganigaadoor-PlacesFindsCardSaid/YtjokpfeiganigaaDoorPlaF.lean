/- Walk of the law's sample. -/
import Derived.Test.YtjokpfeiganigaaDoorPlaB
namespace Go.Proofs.YtjokpfeiganigaaDoor
open Go.RowKit Go.Shelf
set_option linter.unusedSimpArgs false
set_option linter.unusedVariables false

def xLHR : ByteArray := ⟨#[76, 72, 82]⟩
def xLGW : ByteArray := ⟨#[76, 71, 87]⟩
def xCDG : ByteArray := ⟨#[67, 68, 71]⟩
def xFCO : ByteArray := ⟨#[70, 67, 79]⟩
def xLON : ByteArray := ⟨#[76, 79, 78]⟩
def xPAR : ByteArray := ⟨#[80, 65, 82]⟩
def xROM : ByteArray := ⟨#[82, 79, 77]⟩
def xNYC : ByteArray := ⟨#[78, 89, 67]⟩
def xGB : ByteArray := ⟨#[71, 66]⟩
def xFR : ByteArray := ⟨#[70, 82]⟩
def xIT : ByteArray := ⟨#[73, 84]⟩
def sL : List Air := [⟨xLHR, xLON, xGB, 0, none, 0, []⟩, ⟨xLGW, xLON, xGB, 0, none, 0, []⟩, ⟨xCDG, xPAR, xFR, 0, none, 0, []⟩, ⟨xFCO, xROM, xIT, 0, none, 0, []⟩]
def sD : List Dst := [⟨xLON, xPAR, 214⟩, ⟨xPAR, xROM, 688⟩]
def sP (a d : Nat) : PV := ⟨some ⟨a, 0, none⟩, 4, sL, some ⟨d, 0, none⟩, 2, sD⟩
def cellsA (l : List Air) : List Value := l.flatMap fun a => [.string a.code, .string a.city, .string a.land, .int .i64 a.off, .slice a.A a.shs.length a.c]
theorem cellsA_at : ∀ (l : List Air) (i : Nat) (a : Air), l[i]? = some a → (cellsA l)[i * 5]? = some (.string a.code) ∧ (cellsA l)[i * 5 + 1]? = some (.string a.city) ∧ (cellsA l)[i * 5 + 2]? = some (.string a.land) ∧ (cellsA l)[i * 5 + 3]? = some (.int .i64 a.off) ∧ (cellsA l)[i * 5 + 4]? = some (.slice a.A a.shs.length a.c)
  | [], i, a, h => by simp at h
  | x :: r, 0, a, h => by simp at h; subst h; simp [cellsA]
  | x :: r, i + 1, a, h => by
    have ih := cellsA_at r i a (by simpa using h)
    have e : cellsA (x :: r) = .string x.code :: .string x.city :: .string x.land :: .int .i64 x.off :: .slice x.A x.shs.length x.c :: cellsA r := by simp [cellsA]
    rw [e, show (i + 1) * 5 = i * 5 + 1 + 1 + 1 + 1 + 1 by omega, show i * 5 + 1 + 1 + 1 + 1 + 1 + 1 = (i * 5 + 1) + 1 + 1 + 1 + 1 + 1 by omega, show i * 5 + 1 + 1 + 1 + 1 + 1 + 2 = (i * 5 + 2) + 1 + 1 + 1 + 1 + 1 by omega, show i * 5 + 1 + 1 + 1 + 1 + 1 + 3 = (i * 5 + 3) + 1 + 1 + 1 + 1 + 1 by omega, show i * 5 + 1 + 1 + 1 + 1 + 1 + 4 = (i * 5 + 4) + 1 + 1 + 1 + 1 + 1 by omega]
    simp only [List.getElem?_cons_succ]
    exact ih
def cellsD (l : List Dst) : List Value := l.flatMap fun a => [.string a.f, .string a.t, .int .i64 a.m]
theorem cellsD_at : ∀ (l : List Dst) (i : Nat) (a : Dst), l[i]? = some a → (cellsD l)[i * 3]? = some (.string a.f) ∧ (cellsD l)[i * 3 + 1]? = some (.string a.t) ∧ (cellsD l)[i * 3 + 2]? = some (.int .i64 a.m)
  | [], i, a, h => by simp at h
  | x :: r, 0, a, h => by simp at h; subst h; simp [cellsD]
  | x :: r, i + 1, a, h => by
    have ih := cellsD_at r i a (by simpa using h)
    have e : cellsD (x :: r) = .string x.f :: .string x.t :: .int .i64 x.m :: cellsD r := by simp [cellsD]
    rw [e, show (i + 1) * 3 = i * 3 + 1 + 1 + 1 by omega, show i * 3 + 1 + 1 + 1 + 1 = (i * 3 + 1) + 1 + 1 + 1 by omega, show i * 3 + 1 + 1 + 1 + 2 = (i * 3 + 2) + 1 + 1 + 1 by omega]
    simp only [List.getElem?_cons_succ]
    exact ih
theorem AirL.new (w : World) (l : List Air) (h : ∀ a ∈ l, a.shs = []) : AirL (w.alloc (.cells (cellsA l).toArray airT)) (some ⟨w.heap.size, 0, none⟩) l := by
  refine .inr ⟨w.heap.size, 0, rfl, by simp, fun i a hi => ?_⟩
  obtain ⟨c0, c1, c2, c3, c4⟩ := cellsA_at l i a hi
  refine ⟨?_, ?_, ?_, ?_, ?_, .inl (h a (List.mem_of_getElem? hi))⟩
  all_goals rw [cells_new, List.getElem?_toArray]
  · rw [Nat.zero_add]; exact c0
  · rw [Nat.zero_add]; exact c1
  · rw [Nat.zero_add]; exact c2
  · rw [Nat.zero_add]; exact c3
  · rw [Nat.zero_add]; exact c4
theorem DstL.new (w : World) (l : List Dst) : DstL (w.alloc (.cells (cellsD l).toArray dstT)) (some ⟨w.heap.size, 0, none⟩) l := by
  refine .inr ⟨w.heap.size, 0, rfl, by simp, fun i a hi => ?_⟩
  obtain ⟨c0, c1, c2⟩ := cellsD_at l i a hi
  refine ⟨?_, ?_, ?_⟩
  all_goals rw [cells_new, List.getElem?_toArray]
  · rw [Nat.zero_add]; exact c0
  · rw [Nat.zero_add]; exact c1
  · rw [Nat.zero_add]; exact c2
theorem sP_ok (a d : Nat) : OkP (sP a d) where
  air x hx := by
    simp only [sP, sL, List.mem_cons, List.not_mem_nil, or_false] at hx
    rcases hx with rfl | rfl | rfl | rfl <;> exact ⟨by decide, by decide, by decide, by decide, fun k hk => absurd hk (Nat.not_lt_zero _)⟩
  dst x hx := by
    simp only [sP, sD, List.mem_cons, List.not_mem_nil, or_false] at hx
    rcases hx with rfl | rfl <;> exact ⟨by decide, by decide⟩
  la := (by decide : sL.length ≤ 40)
  ld := (by decide : sD.length ≤ 60)

set_option maxRecDepth 100000 in
set_option maxHeartbeats 4000000 in
theorem sample_any (w : World) : Calls Tryd.prog 32 #[] w fun e w' => ∃ a d, e = .returned (encP (sP a d)) ∧ PlL w' (sP a d) ∧ Below w.heap.size w w' := by
  go_enter Tryd.func32, Tryd.ntmps32
  go_wp2
  have e1 : ∀ x y, w.alloc (.cells #[x, y] placesT) = w.alloc (.cells #[x, y] placesT) := fun _ _ => rfl
  have hA := AirL.new (w.alloc (.cells #[.slice (some ⟨w.heap.size + 1, 0, none⟩) 4 4, .slice (some ⟨w.heap.size + 1 + 1, 0, none⟩) 2 2] placesT)) sL (by decide)
  have hD := DstL.new ((w.alloc (.cells #[.slice (some ⟨w.heap.size + 1, 0, none⟩) 4 4, .slice (some ⟨w.heap.size + 1 + 1, 0, none⟩) 2 2] placesT)).alloc (.cells (cellsA sL).toArray airT)) sD
  have b1 := bel_alloc w (.cells #[.slice (some ⟨w.heap.size + 1, 0, none⟩) 4 4, .slice (some ⟨w.heap.size + 1 + 1, 0, none⟩) 2 2] placesT)
  have b2 := bel_alloc (w.alloc (.cells #[.slice (some ⟨w.heap.size + 1, 0, none⟩) 4 4, .slice (some ⟨w.heap.size + 1 + 1, 0, none⟩) 2 2] placesT)) (.cells (cellsA sL).toArray airT)
  have b3 := bel_alloc ((w.alloc (.cells #[.slice (some ⟨w.heap.size + 1, 0, none⟩) 4 4, .slice (some ⟨w.heap.size + 1 + 1, 0, none⟩) 2 2] placesT)).alloc (.cells (cellsA sL).toArray airT)) (.cells (cellsD sD).toArray dstT)
  have hA2 := hA.more b3
  have c0 := bel_cell b3 (bel_cell b2 ((cells_new w #[.slice (some ⟨w.heap.size + 1, 0, none⟩) 4 4, .slice (some ⟨w.heap.size + 1 + 1, 0, none⟩) 2 2] placesT 0).trans (show _ = some _ from rfl)))
  have c1 := bel_cell b3 (bel_cell b2 ((cells_new w #[.slice (some ⟨w.heap.size + 1, 0, none⟩) 4 4, .slice (some ⟨w.heap.size + 1 + 1, 0, none⟩) 2 2] placesT 1).trans (show _ = some _ from rfl)))
  simp only [World.size_alloc] at hA2 hD
  have hb : Below w.heap.size w (((w.alloc (.cells #[.slice (some ⟨w.heap.size + 1, 0, none⟩) 4 4, .slice (some ⟨w.heap.size + 1 + 1, 0, none⟩) 2 2] placesT)).alloc (.cells (cellsA sL).toArray airT)).alloc (.cells (cellsD sD).toArray dstT)) := (b1.trans (b2.mono b1.size)).trans (b3.mono (Nat.le_trans b1.size b2.size))
  clear b1 b2 b3 hA
  refine bodyPost_ret (v := encP (sP (w.heap.size + 1) (w.heap.size + 1 + 1))) ?_ rfl ⟨_, _, rfl, ⟨hA2, hD⟩, hb⟩
  change (results _ _).run Tryd.prog (((w.alloc (.cells #[.slice (some ⟨w.heap.size + 1, 0, none⟩) 4 4, .slice (some ⟨w.heap.size + 1 + 1, 0, none⟩) 2 2] placesT)).alloc (.cells (cellsA sL).toArray airT)).alloc (.cells (cellsD sD).toArray dstT)) = .ok _ (((w.alloc (.cells #[.slice (some ⟨w.heap.size + 1, 0, none⟩) 4 4, .slice (some ⟨w.heap.size + 1 + 1, 0, none⟩) 2 2] placesT)).alloc (.cells (cellsA sL).toArray airT)).alloc (.cells (cellsD sD).toArray dstT))
  generalize ((w.alloc (.cells #[.slice (some ⟨w.heap.size + 1, 0, none⟩) 4 4, .slice (some ⟨w.heap.size + 1 + 1, 0, none⟩) 2 2] placesT)).alloc (.cells (cellsA sL).toArray airT)).alloc (.cells (cellsD sD).toArray dstT) = W at c0 c1 ⊢
  simp [results, Tryd.results32, go_sem, c0, c1, encP, sP, sL, sD]

end Go.Proofs.YtjokpfeiganigaaDoor
