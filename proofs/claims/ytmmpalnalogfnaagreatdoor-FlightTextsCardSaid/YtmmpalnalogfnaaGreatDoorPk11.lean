/- Words and walks that the laws below ask: PlaF, FliO, FliH, TxtF. -/
import Derived.Test.YtmmpalnalogfnaaGreatDoorPk2
import Derived.Test.YtmmpalnalogfnaaGreatDoorPk5
import Derived.Test.YtmmpalnalogfnaaGreatDoorPk6
import Derived.Test.YtmmpalnalogfnaaGreatDoorPk7
import Derived.Test.YtmmpalnalogfnaaGreatDoorPk10
/- Walk of the law's sample. -/
namespace Go.Proofs.YtmmpalnalogfnaaGreatDoor
open Go.RowKit Go.Shelf
set_option linter.unusedSimpArgs false
set_option linter.unusedVariables false

def xLON : ByteArray := ⟨#[76, 79, 78]⟩
def xPAR : ByteArray := ⟨#[80, 65, 82]⟩
def xROM : ByteArray := ⟨#[82, 79, 77]⟩
def sD : List Dst := [⟨xLON, xPAR, 214⟩, ⟨xPAR, xROM, 688⟩]
def cellsA (l : List Air) : List Value := l.flatMap fun a => [.string a.code, .string a.city, .string a.land, .int .i64 a.off, .slice a.A a.shs.length a.c]
theorem cellsA_at : ∀ (l : List Air) (i : Nat) (a : Air), l[i]? = some a → (cellsA l)[i * 5]? = some (.string a.code) ∧ (cellsA l)[i * 5 + 1]? = some (.string a.city) ∧ (cellsA l)[i * 5 + 2]? = some (.string a.land) ∧ (cellsA l)[i * 5 + 3]? = some (.int .i64 a.off) ∧ (cellsA l)[i * 5 + 4]? = some (.slice a.A a.shs.length a.c)
  | [], i, a, h => by simp at h
  | x :: r, 0, a, h => by simp at h; subst h; simp [cellsA]
  | x :: r, i + 1, a, h => by
    have ih := cellsA_at r i a (by simpa using h)
    have e : cellsA (x :: r) = .string x.code :: .string x.city :: .string x.land :: .int .i64 x.off :: .slice x.A x.shs.length x.c :: cellsA r := by simp [cellsA]
    rw [e, show (i + 1) * 5 = i * 5 + 1 + 1 + 1 + 1 + 1 by omega, show i * 5 + 1 + 1 + 1 + 1 + 1 + 1 = (i * 5 + 1) + 1 + 1 + 1 + 1 + 1 by omega, show i * 5 + 1 + 1 + 1 + 1 + 1 + 2 = (i * 5 + 2) + 1 + 1 + 1 + 1 + 1 by omega, show i * 5 + 1 + 1 + 1 + 1 + 1 + 3 = (i * 5 + 3) + 1 + 1 + 1 + 1 + 1 by omega, show i * 5 + 1 + 1 + 1 + 1 + 1 + 4 = (i * 5 + 4) + 1 + 1 + 1 + 1 + 1 by omega]
    simp only [List.getElem?_cons_succ]
    exact ih
def cellsD (l : List Dst) : List Value := l.flatMap fun a => [.string a.f, .string a.t, .int .i64 a.m]
theorem cellsD_at : ∀ (l : List Dst) (i : Nat) (a : Dst), l[i]? = some a → (cellsD l)[i * 3]? = some (.string a.f) ∧ (cellsD l)[i * 3 + 1]? = some (.string a.t) ∧ (cellsD l)[i * 3 + 2]? = some (.int .i64 a.m)
  | [], i, a, h => by simp at h
  | x :: r, 0, a, h => by simp at h; subst h; simp [cellsD]
  | x :: r, i + 1, a, h => by
    have ih := cellsD_at r i a (by simpa using h)
    have e : cellsD (x :: r) = .string x.f :: .string x.t :: .int .i64 x.m :: cellsD r := by simp [cellsD]
    rw [e, show (i + 1) * 3 = i * 3 + 1 + 1 + 1 by omega, show i * 3 + 1 + 1 + 1 + 1 = (i * 3 + 1) + 1 + 1 + 1 by omega, show i * 3 + 1 + 1 + 1 + 2 = (i * 3 + 2) + 1 + 1 + 1 by omega]
    simp only [List.getElem?_cons_succ]
    exact ih
theorem AirL.new (w : World) (l : List Air) (h : ∀ a ∈ l, a.shs = []) : AirL (w.alloc (.cells (cellsA l).toArray airT)) (some ⟨w.heap.size, 0, none⟩) l := by
  refine .inr ⟨w.heap.size, 0, rfl, by simp, fun i a hi => ?_⟩
  obtain ⟨c0, c1, c2, c3, c4⟩ := cellsA_at l i a hi
  refine ⟨?_, ?_, ?_, ?_, ?_, .inl (h a (List.mem_of_getElem? hi))⟩
  all_goals rw [cells_new, List.getElem?_toArray]
  · rw [Nat.zero_add]; exact c0
  · rw [Nat.zero_add]; exact c1
  · rw [Nat.zero_add]; exact c2
  · rw [Nat.zero_add]; exact c3
  · rw [Nat.zero_add]; exact c4
theorem DstL.new (w : World) (l : List Dst) : DstL (w.alloc (.cells (cellsD l).toArray dstT)) (some ⟨w.heap.size, 0, none⟩) l := by
  refine .inr ⟨w.heap.size, 0, rfl, by simp, fun i a hi => ?_⟩
  obtain ⟨c0, c1, c2⟩ := cellsD_at l i a hi
  refine ⟨?_, ?_, ?_⟩
  all_goals rw [cells_new, List.getElem?_toArray]
  · rw [Nat.zero_add]; exact c0
  · rw [Nat.zero_add]; exact c1
  · rw [Nat.zero_add]; exact c2
end Go.Proofs.YtmmpalnalogfnaaGreatDoor

/- Walk of the flight laws' awake. -/
namespace Go.Proofs.YtmmpalnalogfnaaGreatDoor
open Go.RowKit Go.Shelf
set_option linter.unusedSimpArgs false
set_option linter.unusedVariables false

/-! ### the example -/
def s7A : List Air := [⟨⟨#[76, 72, 82]⟩, ⟨#[76, 79, 78]⟩, ⟨#[71, 66]⟩, 0, none, 0, []⟩, ⟨⟨#[74, 70, 75]⟩, ⟨#[78, 89, 67]⟩, ⟨#[85, 83]⟩, -300, none, 0, []⟩]
def s7G (arr : Int) : Lg := ⟨⟨#[76, 72, 82]⟩, ⟨#[74, 70, 75]⟩, 500, arr, ⟨#[55, 55, 55]⟩⟩
def s7F (arr : Int) (A : Option Addr) (c : Nat) : FV := ⟨⟨#[66, 65]⟩, 117, 9497, 9497, 8, A, c, [s7G arr]⟩
def s7P (N : Nat) : PV := ⟨some ⟨N, 0, none⟩, 2, s7A, none, 0, []⟩
theorem s7_ok : ∀ a ∈ s7A, OkZ a.off a.shs := by
  intro a ha
  simp only [s7A, List.mem_cons, List.not_mem_nil, or_false] at ha
  rcases ha with rfl | rfl <;> exact errZ_ok (by decide)
theorem s7_okG (arr : Int) (h : 0 ≤ arr ∧ arr ≤ 1000) : OkG (s7G arr) := ⟨show 3 ≤ maxLen by decide, show 3 ≤ maxLen by decide, show 3 ≤ maxLen by decide, by show -9223372036854775808 ≤ (500 : Int) ∧ (500 : Int) ≤ 9223372036854775807; omega, by show -9223372036854775808 ≤ arr ∧ arr ≤ 9223372036854775807; omega⟩
theorem s7_legE : legE (s7F 700 none 0) 9497 = 0 := by decide +kernel
theorem s7_dep : depL s7A (s7G 700) 9497 = 13676180 := by decide +kernel
theorem s7_arr : arrL s7A (s7G 700) 9497 = 13676680 := by decide +kernel
theorem s7_legF (A : Option Addr) (c : Nat) : legF s7A (s7F 700 A c) 9497 = [⟨⟨#[66, 65]⟩, 117, 9497, ⟨#[76, 72, 82]⟩, ⟨#[74, 70, 75]⟩, 13676180, 13676680, ⟨#[55, 55, 55]⟩⟩] := by
  have h : Per.hasQ (9497, 9497, 8) 9497 = true := by decide +kernel
  show (if Per.hasQ (9497, 9497, 8) 9497 then [datL s7A (s7F 700 A c) 9497 (s7G 700)] else []) = _
  rw [if_pos h]
  show [(⟨⟨#[66, 65]⟩, 117, 9497, ⟨#[76, 72, 82]⟩, ⟨#[74, 70, 75]⟩, depL s7A (s7G 700) 9497, arrL s7A (s7G 700) 9497, ⟨#[55, 55, 55]⟩⟩ : Dt)] = _
  rw [s7_dep, s7_arr]
theorem s7_prE (A : Option Addr) (c : Nat) : prE (s7F 700 A c) = 0 := (show prE (s7F 700 A c) = prE (s7F 700 none 0) from rfl).trans (by decide +kernel)
theorem s7_prS (A : Option Addr) (c : Nat) : prS (s7F 700 A c) = ⟨#[66, 65, 32, 49, 49, 55, 32, 50, 48, 50, 54, 45, 48, 49, 45, 48, 49, 47, 50, 48, 50, 54, 45, 48, 49, 45, 48, 49, 47, 52, 32, 76, 72, 82, 32, 74, 70, 75, 32, 53, 48, 48, 32, 55, 48, 48, 32, 55, 55, 55]⟩ := (show prS (s7F 700 A c) = prS (s7F 700 none 0) from rfl).trans (by decide +kernel)
theorem s7_ch1 (A : Option Addr) (c : Nat) : chF s7A (s7F 700 A c) = [] := (show chF s7A (s7F 700 A c) = chF s7A (s7F 700 none 0) from rfl).trans (by decide +kernel)
theorem s7_ch2 (A : Option Addr) (c : Nat) : chF s7A (s7F 200 A c) = [(13, ⟨#[100, 97, 121, 32, 50, 48, 50, 54, 45, 48, 49, 45, 48, 49]⟩)] := (show chF s7A (s7F 200 A c) = chF s7A (s7F 200 none 0) from rfl).trans (by decide +kernel)
theorem s7_airL (w w' : World) (h : Below w.heap.size (w.alloc (.cells #[.string ⟨#[76, 72, 82]⟩, .string ⟨#[76, 79, 78]⟩, .string ⟨#[71, 66]⟩, .int .i64 0, .slice none 0 0, .string ⟨#[74, 70, 75]⟩, .string ⟨#[78, 89, 67]⟩, .string ⟨#[85, 83]⟩, .int .i64 (-300), .slice none 0 0] airT)) w') (hs : w.heap.size < w'.heap.size) (hc : ∀ j v, (w.alloc (.cells #[.string ⟨#[76, 72, 82]⟩, .string ⟨#[76, 79, 78]⟩, .string ⟨#[71, 66]⟩, .int .i64 0, .slice none 0 0, .string ⟨#[74, 70, 75]⟩, .string ⟨#[78, 89, 67]⟩, .string ⟨#[85, 83]⟩, .int .i64 (-300), .slice none 0 0] airT)).cell? ⟨w.heap.size, j, none⟩ = some v → w'.cell? ⟨w.heap.size, j, none⟩ = some v) : AirL w' (some ⟨w.heap.size, 0, none⟩) s7A := by
  refine .inr ⟨w.heap.size, 0, rfl, hs, fun i a hi => ?_⟩
  have hg : ∀ j v, (#[.string ⟨#[76, 72, 82]⟩, .string ⟨#[76, 79, 78]⟩, .string ⟨#[71, 66]⟩, .int .i64 0, .slice none 0 0, .string ⟨#[74, 70, 75]⟩, .string ⟨#[78, 89, 67]⟩, .string ⟨#[85, 83]⟩, .int .i64 (-300), .slice none 0 0] : Array Value)[j]? = some v → w'.cell? ⟨w.heap.size, j, none⟩ = some v := fun j v hv => hc j v ((cells_new w #[.string ⟨#[76, 72, 82]⟩, .string ⟨#[76, 79, 78]⟩, .string ⟨#[71, 66]⟩, .int .i64 0, .slice none 0 0, .string ⟨#[74, 70, 75]⟩, .string ⟨#[78, 89, 67]⟩, .string ⟨#[85, 83]⟩, .int .i64 (-300), .slice none 0 0] airT j).trans hv)
  have hlt := (List.getElem?_eq_some_iff.1 hi).1
  have h2 : i = 0 ∨ i = 1 := by simp [s7A] at hlt; omega
  rcases h2 with rfl | rfl
  · simp [s7A] at hi
    subst hi
    exact ⟨hg 0 _ rfl, hg 1 _ rfl, hg 2 _ rfl, hg 3 _ rfl, hg 4 _ rfl, .inl rfl⟩
  · simp [s7A] at hi
    subst hi
    exact ⟨hg 5 _ rfl, hg 6 _ rfl, hg 7 _ rfl, hg 8 _ rfl, hg 9 _ rfl, .inl rfl⟩
theorem s7_legL (w : World) (arr : Int) : LegL (w.alloc (.cells #[.string ⟨#[76, 72, 82]⟩, .string ⟨#[74, 70, 75]⟩, .int .i64 500, .int .i64 arr, .string ⟨#[55, 55, 55]⟩] legT)) (.slice (some ⟨w.heap.size, 0, none⟩) 1 1) [s7G arr] :=
  RowL.new (enc := encLg) (sz := 5) w [s7G arr] legT (fun _ => rfl) rfl 1

theorem RowL.but {α : Type} {enc : α → List Value} {sz : Nat} {w w' : World} {X : Nat → Prop} {b o n c : Nat} {l : List α} (h : RowL sz enc w (.slice (some ⟨b, o, none⟩) n c) l) (hB : But w w' X) (hx : ¬ X b) : RowL sz enc w' (.slice (some ⟨b, o, none⟩) n c) l := by
  obtain ⟨A, c', e, h⟩ := h
  cases e
  refine ⟨_, _, rfl, ?_⟩
  rcases h with h | ⟨b', o', e, hlt, hc⟩
  · exact .inl h
  · cases e
    exact .inr ⟨b, o, rfl, Nat.lt_of_lt_of_le hlt hB.size, fun i x j u hi hu => (World.cell?_of_block (hB.block b hlt hx)).trans (hc i x j u hi hu)⟩

set_option maxRecDepth 100000 in
set_option maxHeartbeats 8000000 in
theorem awake7_any (w : World) (hE : EnvP w) : Calls Tryz.prog 10 #[] w fun e w' => e = .returned (.bool true) ∧ Below w.heap.size w w' := by
  have hb1 := bel_alloc w (.cells #[.string ⟨#[76, 72, 82]⟩, .string ⟨#[76, 79, 78]⟩, .string ⟨#[71, 66]⟩, .int .i64 0, .slice none 0 0, .string ⟨#[74, 70, 75]⟩, .string ⟨#[78, 89, 67]⟩, .string ⟨#[85, 83]⟩, .int .i64 (-300), .slice none 0 0] airT)
  have hb2 := bel_alloc (w.alloc (.cells #[.string ⟨#[76, 72, 82]⟩, .string ⟨#[76, 79, 78]⟩, .string ⟨#[71, 66]⟩, .int .i64 0, .slice none 0 0, .string ⟨#[74, 70, 75]⟩, .string ⟨#[78, 89, 67]⟩, .string ⟨#[85, 83]⟩, .int .i64 (-300), .slice none 0 0] airT)) (.cells #[.slice (some ⟨w.heap.size, 0, none⟩) 2 2, .slice none 0 0] placesT)
  have hb3 := bel_alloc ((w.alloc (.cells #[.string ⟨#[76, 72, 82]⟩, .string ⟨#[76, 79, 78]⟩, .string ⟨#[71, 66]⟩, .int .i64 0, .slice none 0 0, .string ⟨#[74, 70, 75]⟩, .string ⟨#[78, 89, 67]⟩, .string ⟨#[85, 83]⟩, .int .i64 (-300), .slice none 0 0] airT)).alloc (.cells #[.slice (some ⟨w.heap.size, 0, none⟩) 2 2, .slice none 0 0] placesT)) (.cells #[.string ⟨#[76, 72, 82]⟩, .string ⟨#[74, 70, 75]⟩, .int .i64 500, .int .i64 700, .string ⟨#[55, 55, 55]⟩] legT)
  have hb0 : Below w.heap.size w (((w.alloc (.cells #[.string ⟨#[76, 72, 82]⟩, .string ⟨#[76, 79, 78]⟩, .string ⟨#[71, 66]⟩, .int .i64 0, .slice none 0 0, .string ⟨#[74, 70, 75]⟩, .string ⟨#[78, 89, 67]⟩, .string ⟨#[85, 83]⟩, .int .i64 (-300), .slice none 0 0] airT)).alloc (.cells #[.slice (some ⟨w.heap.size, 0, none⟩) 2 2, .slice none 0 0] placesT)).alloc (.cells #[.string ⟨#[76, 72, 82]⟩, .string ⟨#[74, 70, 75]⟩, .int .i64 500, .int .i64 700, .string ⟨#[55, 55, 55]⟩] legT)) := hb1.trans ((hb2.mono hb1.size).trans (hb3.mono (Nat.le_trans hb1.size hb2.size)))
  have hA : AirL (((w.alloc (.cells #[.string ⟨#[76, 72, 82]⟩, .string ⟨#[76, 79, 78]⟩, .string ⟨#[71, 66]⟩, .int .i64 0, .slice none 0 0, .string ⟨#[74, 70, 75]⟩, .string ⟨#[78, 89, 67]⟩, .string ⟨#[85, 83]⟩, .int .i64 (-300), .slice none 0 0] airT)).alloc (.cells #[.slice (some ⟨w.heap.size, 0, none⟩) 2 2, .slice none 0 0] placesT)).alloc (.cells #[.string ⟨#[76, 72, 82]⟩, .string ⟨#[74, 70, 75]⟩, .int .i64 500, .int .i64 700, .string ⟨#[55, 55, 55]⟩] legT)) (some ⟨w.heap.size, 0, none⟩) s7A := s7_airL w _ ((hb2.mono hb1.size).trans (hb3.mono (Nat.le_trans hb1.size hb2.size))) (by simp; omega) (fun j v h => bel_cell hb3 (bel_cell hb2 h))
  have hG : LegL (((w.alloc (.cells #[.string ⟨#[76, 72, 82]⟩, .string ⟨#[76, 79, 78]⟩, .string ⟨#[71, 66]⟩, .int .i64 0, .slice none 0 0, .string ⟨#[74, 70, 75]⟩, .string ⟨#[78, 89, 67]⟩, .string ⟨#[85, 83]⟩, .int .i64 (-300), .slice none 0 0] airT)).alloc (.cells #[.slice (some ⟨w.heap.size, 0, none⟩) 2 2, .slice none 0 0] placesT)).alloc (.cells #[.string ⟨#[76, 72, 82]⟩, .string ⟨#[74, 70, 75]⟩, .int .i64 500, .int .i64 700, .string ⟨#[55, 55, 55]⟩] legT)) (.slice (some ⟨w.heap.size + 1 + 1, 0, none⟩) 1 1) [s7G 700] := by
    have := s7_legL ((w.alloc (.cells #[.string ⟨#[76, 72, 82]⟩, .string ⟨#[76, 79, 78]⟩, .string ⟨#[71, 66]⟩, .int .i64 0, .slice none 0 0, .string ⟨#[74, 70, 75]⟩, .string ⟨#[78, 89, 67]⟩, .string ⟨#[85, 83]⟩, .int .i64 (-300), .slice none 0 0] airT)).alloc (.cells #[.slice (some ⟨w.heap.size, 0, none⟩) 2 2, .slice none 0 0] placesT)) 700
    rw [World.size_alloc, World.size_alloc] at this
    exact this
  have p0 := bel_cell hb3 ((cells_new (w.alloc (.cells #[.string ⟨#[76, 72, 82]⟩, .string ⟨#[76, 79, 78]⟩, .string ⟨#[71, 66]⟩, .int .i64 0, .slice none 0 0, .string ⟨#[74, 70, 75]⟩, .string ⟨#[78, 89, 67]⟩, .string ⟨#[85, 83]⟩, .int .i64 (-300), .slice none 0 0] airT)) #[.slice (some ⟨w.heap.size, 0, none⟩) 2 2, .slice none 0 0] placesT 0).trans (show _ = some (Value.slice (some ⟨w.heap.size, 0, none⟩) 2 2) from rfl))
  have p1 := bel_cell hb3 ((cells_new (w.alloc (.cells #[.string ⟨#[76, 72, 82]⟩, .string ⟨#[76, 79, 78]⟩, .string ⟨#[71, 66]⟩, .int .i64 0, .slice none 0 0, .string ⟨#[74, 70, 75]⟩, .string ⟨#[78, 89, 67]⟩, .string ⟨#[85, 83]⟩, .int .i64 (-300), .slice none 0 0] airT)) #[.slice (some ⟨w.heap.size, 0, none⟩) 2 2, .slice none 0 0] placesT 1).trans (show _ = some (Value.slice none 0 0) from rfl))
  rw [World.size_alloc] at p0 p1
  have hE3 := hE.more hb0
  have hsz : (((w.alloc (.cells #[.string ⟨#[76, 72, 82]⟩, .string ⟨#[76, 79, 78]⟩, .string ⟨#[71, 66]⟩, .int .i64 0, .slice none 0 0, .string ⟨#[74, 70, 75]⟩, .string ⟨#[78, 89, 67]⟩, .string ⟨#[85, 83]⟩, .int .i64 (-300), .slice none 0 0] airT)).alloc (.cells #[.slice (some ⟨w.heap.size, 0, none⟩) 2 2, .slice none 0 0] placesT)).alloc (.cells #[.string ⟨#[76, 72, 82]⟩, .string ⟨#[74, 70, 75]⟩, .int .i64 500, .int .i64 700, .string ⟨#[55, 55, 55]⟩] legT)).heap.size = w.heap.size + 1 + 1 + 1 := by simp
  go_enter Tryz.func10, Tryz.ntmps10
  go_upto_region 3 with fail
  generalize hw3 : ((w.alloc (.cells #[.string ⟨#[76, 72, 82]⟩, .string ⟨#[76, 79, 78]⟩, .string ⟨#[71, 66]⟩, .int .i64 0, .slice none 0 0, .string ⟨#[74, 70, 75]⟩, .string ⟨#[78, 89, 67]⟩, .string ⟨#[85, 83]⟩, .int .i64 (-300), .slice none 0 0] airT)).alloc (.cells #[.slice (some ⟨w.heap.size, 0, none⟩) 2 2, .slice none 0 0] placesT)).alloc (.cells #[.string ⟨#[76, 72, 82]⟩, .string ⟨#[74, 70, 75]⟩, .int .i64 500, .int .i64 700, .string ⟨#[55, 55, 55]⟩] legT) = w3 at *
  have q0 := (cells_new w3 #[.string ⟨#[66, 65]⟩, .int .i64 117, .int .i64 9497, .int .i64 9497, .int .i64 8, .slice (some ⟨w.heap.size + 1 + 1, 0, none⟩) 1 1] fliT 0).trans (show _ = some (Value.string ⟨#[66, 65]⟩) from rfl)
  have q1 := (cells_new w3 #[.string ⟨#[66, 65]⟩, .int .i64 117, .int .i64 9497, .int .i64 9497, .int .i64 8, .slice (some ⟨w.heap.size + 1 + 1, 0, none⟩) 1 1] fliT 1).trans (show _ = some (Value.int .i64 117) from rfl)
  have q2 := (cells_new w3 #[.string ⟨#[66, 65]⟩, .int .i64 117, .int .i64 9497, .int .i64 9497, .int .i64 8, .slice (some ⟨w.heap.size + 1 + 1, 0, none⟩) 1 1] fliT 2).trans (show _ = some (Value.int .i64 9497) from rfl)
  have q3 := (cells_new w3 #[.string ⟨#[66, 65]⟩, .int .i64 117, .int .i64 9497, .int .i64 9497, .int .i64 8, .slice (some ⟨w.heap.size + 1 + 1, 0, none⟩) 1 1] fliT 3).trans (show _ = some (Value.int .i64 9497) from rfl)
  have q4 := (cells_new w3 #[.string ⟨#[66, 65]⟩, .int .i64 117, .int .i64 9497, .int .i64 9497, .int .i64 8, .slice (some ⟨w.heap.size + 1 + 1, 0, none⟩) 1 1] fliT 4).trans (show _ = some (Value.int .i64 8) from rfl)
  have q5 := (cells_new w3 #[.string ⟨#[66, 65]⟩, .int .i64 117, .int .i64 9497, .int .i64 9497, .int .i64 8, .slice (some ⟨w.heap.size + 1 + 1, 0, none⟩) 1 1] fliT 5).trans (show _ = some (Value.slice (some ⟨w.heap.size + 1 + 1, 0, none⟩) 1 1) from rfl)
  rw [hsz] at q0 q1 q2 q3 q4 q5
  have hb4 := bel_alloc w3 (.cells #[.string ⟨#[66, 65]⟩, .int .i64 117, .int .i64 9497, .int .i64 9497, .int .i64 8, .slice (some ⟨w.heap.size + 1 + 1, 0, none⟩) 1 1] fliT)
  have hNb := heap_alloc_new w3 (.cells #[.string ⟨#[66, 65]⟩, .int .i64 117, .int .i64 9497, .int .i64 9497, .int .i64 8, .slice (some ⟨w.heap.size + 1 + 1, 0, none⟩) 1 1] fliT)
  rw [hsz] at hNb
  have hsz4 : (w3.alloc (.cells #[.string ⟨#[66, 65]⟩, .int .i64 117, .int .i64 9497, .int .i64 9497, .int .i64 8, .slice (some ⟨w.heap.size + 1 + 1, 0, none⟩) 1 1] fliT)).heap.size = w.heap.size + 1 + 1 + 1 + 1 := by rw [World.size_alloc, hsz]
  generalize hw4 : w3.alloc (.cells #[.string ⟨#[66, 65]⟩, .int .i64 117, .int .i64 9497, .int .i64 9497, .int .i64 8, .slice (some ⟨w.heap.size + 1 + 1, 0, none⟩) 1 1] fliT) = w4 at *
  clear hw3 hw4 hb1 hb2 hb3
  have hNl : w.heap.size + 1 + 1 + 1 < w4.heap.size := by omega
  have fz : ∀ W, SW w4 W → W.frozen? ⟨w.heap.size + 1 + 1 + 1, 5, none⟩ = false := fun W hW => frozen_more hW hNl (frozen_of_row w4 _ 5 _ _ hNb)
  have HNb := Lib.hid hNb
  clear hNb
  have HS3 : Hid (∀ W, SW w4 W → SW w3 W) := Lib.hid (fun W h => Below.trans hb4 (Below.mono h hb4.size))
  have hle : ∀ a ∈ s7A, a.shs.length ≤ 300 := by decide
  have KL : Hid (∀ W, SW w4 W → Calls Tryz.prog 32 #[.agg #[.slice (some ⟨w.heap.size, 0, none⟩) 2 2, .slice none 0 0], .agg #[.string ⟨#[66, 65]⟩, .int .i64 117, .int .i64 9497, .int .i64 9497, .int .i64 8, .slice (some ⟨w.heap.size + 1 + 1, 0, none⟩) 1 1], .int .i64 9497] W fun e w' => ∃ g c, e = .returned (.tuple #[.slice (some ⟨g, 0, none⟩) 1 c, .int .i64 0]) ∧ w'.cell? ⟨g, 5, none⟩ = some (.int .i64 13676180) ∧ w'.cell? ⟨g, 6, none⟩ = some (.int .i64 13676680) ∧ w4.heap.size ≤ g ∧ SW w4 w') := Lib.hid (fun W h => (legs_any (s7P w.heap.size) (s7F 700 (some ⟨w.heap.size + 1 + 1, 0, none⟩) 1) 9497 W (show 2 ≤ 40 by omega) (hA.more (HS3.out W h)) hle s7_ok (hG.more (HS3.out W h)) (show 1 ≤ 100 by omega) (fun x hx => by
      simp [s7F] at hx; subst hx; exact ⟨by show -1000000 ≤ (500 : Int) ∧ (500 : Int) ≤ 1000000; omega, by show -1000000 ≤ (700 : Int) ∧ (700 : Int) ≤ 1000000; omega⟩) (by omega) (by omega)).mono (by
    rintro e w' ⟨v, rfl, hO, hb⟩
    rw [show (s7P w.heap.size).l = s7A from rfl, s7_legF] at hO
    obtain ⟨g, c, rfl, h1, h2⟩ := hO.own.form (by simp [cellsR, encDt])
    have hc := hO.own.cells (g := g) rfl
    have hadd : ∀ j, (⟨g, 0, none⟩ : Addr).add j = ⟨g, j, none⟩ := fun j => by unfold Addr.add; split <;> simp_all
    refine ⟨g, c, ?_, ?_, ?_, Nat.le_trans h.size h1, Below.trans h (Below.mono hb h.size)⟩
    · rw [show legE (s7F 700 (some ⟨w.heap.size + 1 + 1, 0, none⟩) 1) 9497 = 0 from s7_legE]
      rfl
    · have := hc 5 (.int .i64 13676180) rfl
      rwa [hadd] at this
    · have := hc 6 (.int .i64 13676680) rfl
      rwa [hadd] at this))
  have KP : Hid (∀ W, SW w4 W → Calls Tryz.prog 11 #[.agg #[.string ⟨#[66, 65]⟩, .int .i64 117, .int .i64 9497, .int .i64 9497, .int .i64 8, .slice (some ⟨w.heap.size + 1 + 1, 0, none⟩) 1 1]] W fun e w' => e = .returned (.tuple #[.string ⟨#[66, 65, 32, 49, 49, 55, 32, 50, 48, 50, 54, 45, 48, 49, 45, 48, 49, 47, 50, 48, 50, 54, 45, 48, 49, 45, 48, 49, 47, 52, 32, 76, 72, 82, 32, 74, 70, 75, 32, 53, 48, 48, 32, 55, 48, 48, 32, 55, 55, 55]⟩, .int .i64 0]) ∧ Below W.heap.size W w') := Lib.hid (fun W h => (fprint_any (s7F 700 (some ⟨w.heap.size + 1 + 1, 0, none⟩) 1) W (hE3.more (HS3.out W h)) (hG.more (HS3.out W h)) (show 2 ≤ maxLen by decide) (fun x hx => by
      simp [s7F] at hx; subst hx; exact s7_okG 700 (by omega)) (show 1 ≤ 1000000 by omega)).mono (by
    rintro e w' ⟨rfl, hb⟩
    exact ⟨by rw [s7_prS, s7_prE], hb⟩))
  have KC1 : Hid (∀ W, SW w4 W → Calls Tryz.prog 33 #[.agg #[.slice (some ⟨w.heap.size, 0, none⟩) 2 2, .slice none 0 0], .agg #[.string ⟨#[66, 65]⟩, .int .i64 117, .int .i64 9497, .int .i64 9497, .int .i64 8, .slice (some ⟨w.heap.size + 1 + 1, 0, none⟩) 1 1]] W fun e w' => ∃ A c, e = .returned (.slice A 0 c) ∧ Below W.heap.size W w') := Lib.hid (fun W h => (fcheck_any (s7P w.heap.size) (s7F 700 (some ⟨w.heap.size + 1 + 1, 0, none⟩) 1) W (show 2 ≤ 40 by omega) (hA.more (HS3.out W h)) hle s7_ok (hG.more (HS3.out W h)) (show 1 ≤ 100 by omega) (show 1 ≤ 1 by omega) (show 2 ≤ maxLen by decide) (fun x hx => by
      simp [s7F] at hx; subst hx; exact s7_okG 700 (by omega)) (fun _ _ W' hW' => checkTimes_any (s7P w.heap.size) (s7F 700 (some ⟨w.heap.size + 1 + 1, 0, none⟩) 1) W' (show 2 ≤ 40 by omega) ((hA.more (HS3.out W h)).more hW') hle s7_ok ((hG.more (HS3.out W h)).more hW') (show 1 ≤ 100 by omega) (fun x hx => by
      simp [s7F] at hx; subst hx; exact ⟨by show -1000000 ≤ (500 : Int) ∧ (500 : Int) ≤ 1000000; omega, by show -1000000 ≤ (700 : Int) ∧ (700 : Int) ≤ 1000000; omega⟩))).mono (by
    rintro e w' ⟨v, rfl, hO, hb⟩
    rw [show (s7P w.heap.size).l = s7A from rfl, s7_ch1] at hO
    obtain ⟨A, c, rfl, _⟩ := hO.rowL rtF.len
    exact ⟨A, c, rfl, hb⟩))
  have KC2 : Hid (∀ W b, SW w3 W → LegL W (.slice (some ⟨b, 0, none⟩) 1 1) [s7G 200] → Calls Tryz.prog 33 #[.agg #[.slice (some ⟨w.heap.size, 0, none⟩) 2 2, .slice none 0 0], .agg #[.string ⟨#[66, 65]⟩, .int .i64 117, .int .i64 9497, .int .i64 9497, .int .i64 8, .slice (some ⟨b, 0, none⟩) 1 1]] W fun e w' => ∃ g c, e = .returned (.slice (some ⟨g, 0, none⟩) 1 c) ∧ w'.cell? ⟨g, 0, none⟩ = some (.int .i64 13) ∧ w'.cell? ⟨g, 1, none⟩ = some (.string ⟨#[100, 97, 121, 32, 50, 48, 50, 54, 45, 48, 49, 45, 48, 49]⟩) ∧ Below W.heap.size W w') := Lib.hid (fun W b h hG2 => (fcheck_any (s7P w.heap.size) (s7F 200 (some ⟨b, 0, none⟩) 1) W (show 2 ≤ 40 by omega) (hA.more h) hle s7_ok hG2 (show 1 ≤ 100 by omega) (show 1 ≤ 1 by omega) (show 2 ≤ maxLen by decide) (fun x hx => by
      simp [s7F] at hx; subst hx; exact s7_okG 200 (by omega)) (fun _ _ W' hW' => checkTimes_any (s7P w.heap.size) (s7F 200 (some ⟨b, 0, none⟩) 1) W' (show 2 ≤ 40 by omega) ((hA.more h).more hW') hle s7_ok (hG2.more hW') (show 1 ≤ 100 by omega) (fun x hx => by
      simp [s7F] at hx; subst hx; exact ⟨by show -1000000 ≤ (500 : Int) ∧ (500 : Int) ≤ 1000000; omega, by show -1000000 ≤ (200 : Int) ∧ (200 : Int) ≤ 1000000; omega⟩))).mono (by
    rintro e w' ⟨v, rfl, hO, hb⟩
    rw [show (s7P w.heap.size).l = s7A from rfl, s7_ch2] at hO
    obtain ⟨g, c, rfl, h1, h2⟩ := hO.own.form (by simp [cellsR, encF])
    have hc := hO.own.cells (g := g) rfl
    have hadd : ∀ j, (⟨g, 0, none⟩ : Addr).add j = ⟨g, j, none⟩ := fun j => by unfold Addr.add; split <;> simp_all
    refine ⟨g, c, rfl, ?_, ?_, hb⟩
    · have := hc 0 (.int .i64 13) rfl
      rwa [hadd] at this
    · have := hc 1 (.string ⟨#[100, 97, 121, 32, 50, 48, 50, 54, 45, 48, 49, 45, 48, 49]⟩) rfl
      rwa [hadd] at this))
  have f0 := bel_get q0
  have f1 := bel_get q1
  have f2 := bel_get q2
  have f3 := bel_get q3
  have f4 := bel_get q4
  have f5 := bel_get q5
  have y0 : ∀ W, SW w4 W → W.cell? ⟨w.heap.size + 1, 0, none⟩ = some (.slice (some ⟨w.heap.size, 0, none⟩) 2 2) := fun W h => bel_get p0 W (HS3.out W h)
  have y1 : ∀ W, SW w4 W → W.cell? ⟨w.heap.size + 1, 1, none⟩ = some (.slice none 0 0) := fun W h => bel_get p1 W (HS3.out W h)
  have hS : SW w4 w4 := Below.refl _ _
  have z0 := y0 _ hS
  have z1 := y1 _ hS
  have HSZ := Lib.hid hsz
  have HSZ4 := Lib.hid hsz4
  have HP := Lib.hid (And.intro p0 p1)
  clear hA hG hle hsz hsz4 hE hE3 p0 p1
  go_upto_region 7 with (first
    | (go_at_call 32; refine (KL.out _ hS).mono ?_; rintro e w5 ⟨g1, c1, rfl, hd0, ha0, hg1, hS⟩; have z0 := y0 _ hS; have z1 := y1 _ hS; have q0 := f0 _ hS; have q1 := f1 _ hS; have q2 := f2 _ hS; have q3 := f3 _ hS; have q4 := f4 _ hS; have q5 := f5 _ hS)
    | (go_at_call 11; refine (KP.out _ hS).mono ?_; rintro e w6 ⟨rfl, hb6⟩; have hS : SW w4 w6 := Below.trans hS (Below.mono hb6 hS.size); have z0 := y0 _ hS; have z1 := y1 _ hS; have q0 := f0 _ hS; have q1 := f1 _ hS; have q2 := f2 _ hS; have q3 := f3 _ hS; have q4 := f4 _ hS; have q5 := f5 _ hS; have hd0 := bel_cell hb6 hd0; have ha0 := bel_cell hb6 ha0)
    | (go_at_call 33; refine (KC1.out _ hS).mono ?_; rintro e w7 ⟨A2, c2, rfl, hb7⟩; have hS : SW w4 w7 := Below.trans hS (Below.mono hb7 hS.size); have z0 := y0 _ hS; have z1 := y1 _ hS; have q0 := f0 _ hS; have q1 := f1 _ hS; have q2 := f2 _ hS; have q3 := f3 _ hS; have q4 := f4 _ hS; have q5 := f5 _ hS; have hd0 := bel_cell hb7 hd0; have ha0 := bel_cell hb7 ha0; have hSb : SW w4 (w7.alloc (.cells #[.string ⟨#[76, 72, 82]⟩, .string ⟨#[74, 70, 75]⟩, .int .i64 500, .int .i64 200, .string ⟨#[55, 55, 55]⟩] legT)) := Below.alloc hS hS.size _; have fz5 := fz _ hSb; have r0 := f0 _ hSb; have r1 := f1 _ hSb; have r2 := f2 _ hSb; have r3 := f3 _ hSb; have r4 := f4 _ hSb; have r5 := f5 _ hSb))
  have hM7 : (w7.alloc (.cells #[.string ⟨#[76, 72, 82]⟩, .string ⟨#[74, 70, 75]⟩, .int .i64 500, .int .i64 200, .string ⟨#[55, 55, 55]⟩] legT)).heap[w.heap.size + 1 + 1 + 1]? = some (.cells #[.string ⟨#[66, 65]⟩, .int .i64 117, .int .i64 9497, .int .i64 9497, .int .i64 8, .slice (some ⟨w.heap.size + 1 + 1, 0, none⟩) 1 1] fliT (0, 0)) := (hSb.block _ hNl).trans HNb.out
  have hM8 := heap_setCell_same _ _ 5 _ fliT (.slice (some ⟨w7.heap.size, 0, none⟩) 1 1) hM7
  have hB8 := But.setCell (w7.alloc (.cells #[.string ⟨#[76, 72, 82]⟩, .string ⟨#[74, 70, 75]⟩, .int .i64 500, .int .i64 200, .string ⟨#[55, 55, 55]⟩] legT)) (w.heap.size + 1 + 1 + 1) 5 (.slice (some ⟨w7.heap.size, 0, none⟩) 1 1)
  have hS8 : SW w3 ((w7.alloc (.cells #[.string ⟨#[76, 72, 82]⟩, .string ⟨#[74, 70, 75]⟩, .int .i64 500, .int .i64 200, .string ⟨#[55, 55, 55]⟩] legT)).setCell ⟨w.heap.size + 1 + 1 + 1, 5, none⟩ (.slice (some ⟨w7.heap.size, 0, none⟩) 1 1)) := Below.setCell (HS3.out _ hSb) (by show w3.heap.size ≤ w.heap.size + 1 + 1 + 1; have := HSZ.out; omega) _
  have hlt7 : w.heap.size + 1 + 1 + 1 < w7.heap.size := Nat.lt_of_lt_of_le hNl hS.size
  have hG2 := RowL.but (s7_legL w7 200) hB8 (by omega)
  have hlg1 : g1 < w7.heap.size := World.block_lt_of_cell? _ _ hd0
  have hng1 : ¬ g1 = w.heap.size + 1 + 1 + 1 := by omega
  have hd0 := (World.cell?_of_block (hB8.block g1 (Nat.lt_of_lt_of_le hlg1 (bel_alloc w7 (.cells #[.string ⟨#[76, 72, 82]⟩, .string ⟨#[74, 70, 75]⟩, .int .i64 500, .int .i64 200, .string ⟨#[55, 55, 55]⟩] legT)).size) hng1)).trans (bel_cell (bel_alloc w7 (.cells #[.string ⟨#[76, 72, 82]⟩, .string ⟨#[74, 70, 75]⟩, .int .i64 500, .int .i64 200, .string ⟨#[55, 55, 55]⟩] legT)) hd0)
  have ha0 := (World.cell?_of_block (hB8.block g1 (Nat.lt_of_lt_of_le hlg1 (bel_alloc w7 (.cells #[.string ⟨#[76, 72, 82]⟩, .string ⟨#[74, 70, 75]⟩, .int .i64 500, .int .i64 200, .string ⟨#[55, 55, 55]⟩] legT)).size) hng1)).trans (bel_cell (bel_alloc w7 (.cells #[.string ⟨#[76, 72, 82]⟩, .string ⟨#[74, 70, 75]⟩, .int .i64 500, .int .i64 200, .string ⟨#[55, 55, 55]⟩] legT)) ha0)
  have u0 := (cell_of_row _ _ 0 _ _ (0, 0) hM8).trans (show _ = some _ from rfl)
  have u1 := (cell_of_row _ _ 1 _ _ (0, 0) hM8).trans (show _ = some _ from rfl)
  have u2 := (cell_of_row _ _ 2 _ _ (0, 0) hM8).trans (show _ = some _ from rfl)
  have u3 := (cell_of_row _ _ 3 _ _ (0, 0) hM8).trans (show _ = some _ from rfl)
  have u4 := (cell_of_row _ _ 4 _ _ (0, 0) hM8).trans (show _ = some _ from rfl)
  have u5 := (cell_of_row _ _ 5 _ _ (0, 0) hM8).trans (show _ = some _ from rfl)
  have x0 := bel_get HP.out.1 _ hS8
  have x1 := bel_get HP.out.2 _ hS8
  clear hM7 hM8 hB8 hS hSb fz5 r0 r1 r2 r3 r4 r5 hlt7 hlg1 hng1 hb6 hb7 z0 z1 q0 q1 q2 q3 q4 q5 f0 f1 f2 f3 f4 f5 y0 y1 fz hg1
  generalize hw8 : (w7.alloc (.cells #[.string ⟨#[76, 72, 82]⟩, .string ⟨#[74, 70, 75]⟩, .int .i64 500, .int .i64 200, .string ⟨#[55, 55, 55]⟩] legT)).setCell ⟨w.heap.size + 1 + 1 + 1, 5, none⟩ (.slice (some ⟨w7.heap.size, 0, none⟩) 1 1) = w8 at *
  clear hw8
  go_wp2_with (go_at_call 33; refine (KC2.out _ _ hS8 hG2).mono ?_; rintro e w9 ⟨g2, c2', rfl, he0, he1, hb9⟩; have hd0 := bel_cell hb9 hd0; have ha0 := bel_cell hb9 ha0)
  go_ret
  exact ⟨rfl, hb0.trans ((Below.trans hS8 (Below.mono hb9 hS8.size)).mono hb0.size)⟩
end Go.Proofs.YtmmpalnalogfnaaGreatDoor

/- Walk of the reference's Big. -/
namespace Go.Proofs.YtmmpalnalogfnaaGreatDoor
open Go.RowKit Go.Shelf
set_option linter.unusedSimpArgs false
set_option linter.unusedVariables false

set_option maxRecDepth 100000 in
set_option maxHeartbeats 4000000 in
/-- what is not big has few legs, airports and distances -/
theorem big_any (p : PV) (f : FV) (w : World) (hG : LegL w (.slice f.A f.lg.length f.c) f.lg) (h0 : f.lg.length < 9223372036854775808) (h1 : p.l.length < 9223372036854775808) (h2 : p.ds.length < 9223372036854775808) :
    Calls Tryz.prog 9 #[encP p, encFl f] w fun e w' => ∃ v : Value, e = .returned v ∧ Hid (v = .bool true ∨ (v = .bool false ∧ f.lg.length ≤ 12 ∧ p.l.length ≤ 20 ∧ p.ds.length ≤ 40)) ∧ Below w.heap.size w w' := by
  obtain ⟨A, ca, l, D, cd, ds⟩ := p
  obtain ⟨car, num, pf, pt, pd, G, gc, lg⟩ := f
  dsimp only at *
  have hb1 := bel_alloc w (.cells #[.slice A l.length ca, .slice D ds.length cd] placesT)
  have hb2 := bel_alloc (w.alloc (.cells #[.slice A l.length ca, .slice D ds.length cd] placesT)) (.cells #[.string car, .int .i64 num, .int .i64 pf, .int .i64 pt, .int .i64 pd, .slice G lg.length gc] fliT)
  have hb0 := hb1.trans (hb2.mono hb1.size)
  have p0 := bel_cell hb2 ((cells_new w #[.slice A l.length ca, .slice D ds.length cd] placesT 0).trans (show _ = some _ from rfl))
  have p1 := bel_cell hb2 ((cells_new w #[.slice A l.length ca, .slice D ds.length cd] placesT 1).trans (show _ = some _ from rfl))
  have q0 := (cells_new (w.alloc (.cells #[.slice A l.length ca, .slice D ds.length cd] placesT)) #[.string car, .int .i64 num, .int .i64 pf, .int .i64 pt, .int .i64 pd, .slice G lg.length gc] fliT 0).trans (show _ = some _ from rfl)
  have q5 := (cells_new (w.alloc (.cells #[.slice A l.length ca, .slice D ds.length cd] placesT)) #[.string car, .int .i64 num, .int .i64 pf, .int .i64 pt, .int .i64 pd, .slice G lg.length gc] fliT 5).trans (show _ = some _ from rfl)
  rw [World.size_alloc] at q0 q5
  have hG5 := hG.more hb0
  clear hG
  go_enter Tryz.func9, Tryz.ntmps9
  go_wp2
  generalize (w.alloc (.cells #[.slice A l.length ca, .slice D ds.length cd] placesT)).alloc (.cells #[.string car, .int .i64 num, .int .i64 pf, .int .i64 pt, .int .i64 pd, .slice G lg.length gc] fliT) = w5 at *
  go_loopw [5, 6] (fun vn vi wr => ∃ (k : Nat) (N : Int), k ≤ lg.length ∧ k ≤ 20 ∧ vn = .int .i64 N ∧ vi = .int .i64 k ∧ SW w5 wr) (fun _ vi _ => lg.length - (intOf vi).toNat)
  case atStart => exact ⟨0, _, Nat.zero_le _, by omega, rfl, rfl, Below.refl _ _⟩
  case round =>
    obtain ⟨k, N, hk, hk20, rfl, rfl, hS⟩ := hrel
    have t0 := bel_cell hS p0
    have t1 := bel_cell hS p1
    have t5 := bel_cell hS q5
    by_cases hlt : k < lg.length
    · have i1 : (k : Int) < (lg.length : Int) := by omega
      by_cases h20 : k < 20
      · obtain ⟨b, o, x, rfl, _, hx, c0, c1, c2, c3, c4⟩ := LegL.get (hG5.more hS) hlt
        have i2 : (k : Int) < 20 := by omega
        have f0 := SW.cell c0
        have f1 := SW.cell c1
        have f4 := SW.cell c4
        have f5 := SW.cell t5
        clear hx c0 c1 c2 c3 c4
        go_wp2
        have hNe : Nonempty (Wd (SW wr)) := ⟨⟨_, SW.drew _⟩⟩
        refine quietS (S := SW wr) (by kernel_rfl) (by kernel_rfl) (SW.drew _) ?_
        repeat (first | go_big_quiet_skip | (go_big_quiet_want; go_big_quiet_op; first | go_big_quiet_on | go_big_quiet_call ((fail))))
        refine wpQuiet_nil ?_
        rintro W ⟨⟨_, hW⟩, rfl⟩
        go_wp2
        go_roundw
        case rel => exact ⟨k + 1, _, by omega, by omega, rfl, by go_num, Below.trans hS (Below.mono hW hS.size)⟩
        case measure => simp [intOf]; omega
      · have i2 : ¬ (k : Int) < 20 := by omega
        have g1 : (12 : Int) < (lg.length : Int) := by omega
        by_cases g0 : (400 : Int) < N
        · go_wp2
          go_ret
          exact ⟨.bool true, rfl, Lib.hid (Or.inl rfl), hb0.trans (Below.mono hS hb0.size)⟩
        · go_wp2
          go_ret
          exact ⟨.bool true, rfl, Lib.hid (Or.inl rfl), hb0.trans (Below.mono hS hb0.size)⟩
    · have i1 : ¬ (k : Int) < (lg.length : Int) := by omega
      by_cases g0 : (400 : Int) < N
      · go_wp2
        go_ret
        exact ⟨.bool true, rfl, Lib.hid (Or.inl rfl), hb0.trans (Below.mono hS hb0.size)⟩
      · skip
        by_cases g1 : (12 : Int) < (lg.length : Int)
        · go_wp2
          go_ret
          exact ⟨.bool true, rfl, Lib.hid (Or.inl rfl), hb0.trans (Below.mono hS hb0.size)⟩
        · skip
          by_cases g2 : (20 : Int) < (l.length : Int)
          · go_wp2
            go_ret
            exact ⟨.bool true, rfl, Lib.hid (Or.inl rfl), hb0.trans (Below.mono hS hb0.size)⟩
          · skip
            by_cases g3 : (40 : Int) < (ds.length : Int)
            · go_wp2
              go_ret
              exact ⟨.bool true, rfl, Lib.hid (Or.inl rfl), hb0.trans (Below.mono hS hb0.size)⟩
            · skip
              go_wp2
              go_ret
              exact ⟨.bool false, rfl, Lib.hid (Or.inr ⟨rfl, by omega, by omega, by omega⟩), hb0.trans (Below.mono hS hb0.size)⟩

end Go.Proofs.YtmmpalnalogfnaaGreatDoor

/- Walk of the law FlightTexts. -/
namespace Go.Proofs.YtmmpalnalogfnaaGreatDoor
open Go.RowKit Go.Shelf
set_option linter.unusedSimpArgs false
set_option linter.unusedVariables false

/-- a flight that was read: the error er, the flight one of G -/
abbrev RdP (er : Int) (G : FV → Prop) (w : World) (e : Ending) (w' : World) : Prop := ∃ g : FV, e = .returned (.tuple #[encFl g, .int .i64 er]) ∧ Hid (G g) ∧ LegL w' (.slice g.A g.lg.length g.c) g.lg ∧ Below w.heap.size w w'
theorem same_fv (ss : List ByteArray) (A A' : Option Addr) (c c' : Nat) : sameB (fvR ss A c) (fvR ss A' c') = true := by
  have h : sameB (fvR ss A c) (fvR ss A' c') = sameB (fvR ss A c) (fvR ss A c) := rfl
  rw [h]
  exact sameB_refl _
theorem sum_wd {s : ByteArray} {ss : List ByteArray} (h : s.data.toList = joinL (bytesOf ss)) (hs : s.size ≤ 400) : (wd ss 2).size ≤ 1000 ∧ ss.length ≤ 1001 := by
  have h1 := wd_size h 2
  have h2 := ss_len h
  omega
/-- one word for all that a parse of a text hands back -/
theorem readings (s : ByteArray) (hs : s.size ≤ 400) : ∃ (er : Int) (G : FV → Prop),
    (∀ W, Txt.Env W → Per.Env0 W → Calls Tryz.prog 13 #[.string s] W (RdP er G W)) ∧
    (∀ W, Calls Tryz.prog 14 #[.string s] W (RdP er G W)) ∧
    (∀ g g', G g → G g' → sameB g g' = true) ∧ (er = 0 → ∀ g, G g → prE g = 0 ∧ prS g = s) ∧ (∀ g, G g → g.lg.length ≤ 1000 ∧ g.car.size ≤ maxLen ∧ ∀ x ∈ g.lg, OkG x) := by
  by_cases hw : ∃ ss, s.data.toList = joinL (bytesOf ss)
  · obtain ⟨ss, h⟩ := hw
    obtain ⟨g1, g2⟩ := sum_wd h hs
    refine ⟨paE ss, PaF ss, fun W hE hE0 => (fparse_yes s ss W (by omega) h g1 g2 hE hE0).mono ?_, fun W => (rfparse_yes s ss W (by omega) h).mono ?_, fun g g' hg hg' => ?_, fun he g hg => ?_, fun g hg => ?_⟩
    · rintro e w' ⟨g, rfl, h1, h2, h3⟩
      exact ⟨g, rfl, Lib.hid h1, h2, h3⟩
    · rintro e w' ⟨g, rfl, h1, h2, h3⟩
      exact ⟨g, rfl, Lib.hid h1, h2, h3⟩
    · by_cases he : paE ss = 0
      · rw [hg.1 he, hg'.1 he]
        exact same_fv ss _ _ _ _
      · rw [hg.2 he, hg'.2 he]
        exact sameB_refl _
    · rw [hg.1 he]
      obtain ⟨h1, h2⟩ := read_print he g.A g.c
      refine ⟨h1, ?_⟩
      unfold prS
      rw [if_pos h1]
      unfold prT
      rw [h2, ← h]
    · by_cases he : paE ss = 0
      · rw [hg.1 he]
        refine ⟨?_, ml_of (Nat.le_trans (wd_size h 0) (by omega)), lgsR_ok h (by omega) _⟩
        show (lgsR ss (lgN ss)).length ≤ 1000
        unfold lgsR lgN
        rw [List.length_map, List.length_range]
        omega
      · rw [hg.2 he]
        exact ⟨Nat.zero_le _, Nat.zero_le _, fun x hx => by cases hx⟩
  · have hno : ∀ l, s.data.toList ≠ joinL l := by
      intro l e
      refine hw ⟨l.map (fun b => ⟨b.toArray⟩), ?_⟩
      rw [e]
      congr 1
      unfold bytesOf
      rw [List.map_map]
      exact (List.map_id' l).symm.trans (List.map_congr_left (fun x _ => by simp))
    refine ⟨3, fun g => g = fvZ, fun W _ _ => (fparse_no s W (by omega) hno).mono ?_, fun W => (rfparse_no s W (by omega) hno).mono ?_, fun g g' hg hg' => ?_, (fun h => by cases h), fun g hg => ?_⟩
    · rintro e w' ⟨rfl, hb⟩
      exact ⟨fvZ, rfl, Lib.hid rfl, ⟨none, 0, rfl, .inl rfl⟩, hb⟩
    · rintro e w' ⟨rfl, hb⟩
      exact ⟨fvZ, rfl, Lib.hid rfl, ⟨none, 0, rfl, .inl rfl⟩, hb⟩
    · rw [hg, hg']
      exact sameB_refl _
    · rw [hg]
      exact ⟨Nat.zero_le _, Nat.zero_le _, fun x hx => by cases hx⟩
/-- what was printed is read -/
theorem printed {f : FV} (h : prE f = 0) (hi : ∀ x ∈ f.lg, OkG x) : ∃ G : FV → Prop, (∀ W, Txt.Env W → Per.Env0 W → Calls Tryz.prog 13 #[.string (prS f)] W (RdP 0 G W)) ∧ (∀ g, G g → sameB g f = true ∧ g.lg.length ≤ 1000) := by
  obtain ⟨p1, p2⟩ := print_read h (fun x hx => ⟨(hi x hx).dep, (hi x hx).arr⟩)
  have hS : (prS f).data.toList = joinL (bytesOf (prW f f.lg.length)) := by
    unfold prS
    rw [if_pos h]
    unfold prT
    exact List.toList_toArray
  have hl := prW_len f f.lg.length
  have hc := (cnt_bd (prE_zero h).2.2.2.1).2
  have hsum := prW_sum h
  have hj := joinL_le (bytesOf (prW f f.lg.length))
  have hbl : (bytesOf (prW f f.lg.length)).length = (prW f f.lg.length).length := by simp [bytesOf]
  have hsz : (prS f).size = (joinL (bytesOf (prW f f.lg.length))).length := by rw [← hS]; simp
  have hw2 : wd (prW f f.lg.length) 2 = perT f := rfl
  have hp := perT_len f
  have hp2 : (perT f).data.toList.length = (perT f).size := by simp
  refine ⟨PaF (prW f f.lg.length), fun W hE hE0 => (fparse_yes (prS f) _ W (by omega) hS (by rw [hw2]; omega) (by omega) hE hE0).mono ?_, fun g hg => ?_⟩
  · rintro e w' ⟨g, rfl, h1, h2, h3⟩
    rw [p1]
    exact ⟨g, rfl, Lib.hid h1, h2, h3⟩
  · have e := hg.1 p1
    have e2 : sameB g f = sameB g (fvR (prW f f.lg.length) f.A f.c) := by rw [p2]
    refine ⟨?_, ?_⟩
    · rw [e2, e]
      exact same_fv _ _ _ _ _
    · rw [e]
      have : (fvR (prW f f.lg.length) f.A f.c).lg = f.lg := by rw [p2]
      show (fvR (prW f f.lg.length) f.A f.c).lg.length ≤ 1000
      rw [this]
      omega

set_option maxRecDepth 100000 in
set_option maxHeartbeats 8000000 in
theorem flightTexts_walk (f : FV) (s : ByteArray) (w : World) (hE : EnvP w) (hT : Txt.Env w) (h0 : Per.Env0 w) (hG : LegL w (.slice f.A f.lg.length f.c) f.lg) (of : OkFl f) :
    Calls Tryz.prog 3 #[encFl f, .string s] w fun e w' => e = .returned (.bool true) ∧ Below w.heap.size w w' := by
  have hb0 := bel_alloc w (.cells #[.string f.car, .int .i64 f.num, .int .i64 f.pf, .int .i64 f.pt, .int .i64 f.pd, .slice f.A f.lg.length f.c] fliT)
  have q0 := (cells_new w #[.string f.car, .int .i64 f.num, .int .i64 f.pf, .int .i64 f.pt, .int .i64 f.pd, .slice f.A f.lg.length f.c] fliT 0).trans (show _ = some (Value.string f.car) from rfl)
  have q1 := (cells_new w #[.string f.car, .int .i64 f.num, .int .i64 f.pf, .int .i64 f.pt, .int .i64 f.pd, .slice f.A f.lg.length f.c] fliT 1).trans (show _ = some (Value.int .i64 f.num) from rfl)
  have q2 := (cells_new w #[.string f.car, .int .i64 f.num, .int .i64 f.pf, .int .i64 f.pt, .int .i64 f.pd, .slice f.A f.lg.length f.c] fliT 2).trans (show _ = some (Value.int .i64 f.pf) from rfl)
  have q3 := (cells_new w #[.string f.car, .int .i64 f.num, .int .i64 f.pf, .int .i64 f.pt, .int .i64 f.pd, .slice f.A f.lg.length f.c] fliT 3).trans (show _ = some (Value.int .i64 f.pt) from rfl)
  have q4 := (cells_new w #[.string f.car, .int .i64 f.num, .int .i64 f.pf, .int .i64 f.pt, .int .i64 f.pd, .slice f.A f.lg.length f.c] fliT 4).trans (show _ = some (Value.int .i64 f.pd) from rfl)
  have q5 := (cells_new w #[.string f.car, .int .i64 f.num, .int .i64 f.pf, .int .i64 f.pt, .int .i64 f.pd, .slice f.A f.lg.length f.c] fliT 5).trans (show _ = some (Value.slice f.A f.lg.length f.c) from rfl)
  have HE := Lib.hid (hE.more hb0)
  have HT := Lib.hid (hT.more hb0)
  have H0 := Lib.hid (h0.more hb0)
  have HG := Lib.hid (hG.more hb0)
  have HOF := Lib.hid of
  have hlen := of.len
  have HB0 := Lib.hid hb0
  clear hE hT h0 hG of
  go_enter Tryz.func3, Tryz.ntmps3
  go_upto_region 1 with fail
  generalize hw5 : w.alloc (.cells #[.string f.car, .int .i64 f.num, .int .i64 f.pf, .int .i64 f.pt, .int .i64 f.pd, .slice f.A f.lg.length f.c] fliT) = w5 at *
  clear hw5 hb0
  have F0 := Lib.hid (bel_get q0)
  have F1 := Lib.hid (bel_get q1)
  have F2 := Lib.hid (bel_get q2)
  have F3 := Lib.hid (bel_get q3)
  have F4 := Lib.hid (bel_get q4)
  have F5 := Lib.hid (bel_get q5)
  clear q0 q1 q2 q3 q4 q5
  have KW : Hid (∀ W, SW w5 W → Calls Tryz.prog 10 #[] W fun e w' => e = .returned (.bool true) ∧ SW w5 w') := Lib.hid (SW.call (fun W h => awake7_any W (HE.out.more h)))
  have KB : Hid (∀ W, SW w5 W → Calls Tryz.prog 9 #[.agg #[.slice none 0 0, .slice none 0 0], encFl f] W fun e w' => ∃ v : Value, e = .returned v ∧ Hid (v = .bool true ∨ (v = .bool false ∧ f.lg.length ≤ 12)) ∧ SW w5 w') := Lib.hid (fun W h => (big_any ⟨none, 0, [], none, 0, []⟩ f W (HG.out.more h) hlen (by simp) (by simp)).mono (by
    rintro e w' ⟨v, rfl, hv, hb⟩
    exact ⟨v, rfl, Lib.hid (hv.out.imp id fun h => ⟨h.1, h.2.1⟩), Below.trans h (Below.mono hb h.size)⟩))
  have hS : SW w5 w5 := Below.refl _ _
  have k0 := F0.out _ hS
  have k1 := F1.out _ hS
  have k2 := F2.out _ hS
  have k3 := F3.out _ hS
  have k4 := F4.out _ hS
  have k5 := F5.out _ hS
  go_wp2_with (go_at_call 9; refine (KB.out _ hS).mono ?_; rintro e w1 ⟨v1, rfl, hv1, hS⟩; refine Hid.out ?_)
  clear k0 k1 k2 k3 k4 k5
  rcases hv1.out with rfl | ⟨rfl, h12⟩
  · refine Lib.hid ?_
    clear hv1
    go_wp2_with (go_at_call 10; refine (KW.out _ hS).mono ?_; rintro e w19 ⟨rfl, hS⟩)
    go_ret
    exact ⟨rfl, HB0.out.trans (Below.mono hS HB0.out.size)⟩
  clear hv1
  refine Lib.hid ?_
  by_cases hs : s.size ≤ 400
  case neg =>
    have i1 : (400 : Int) < (s.size : Int) := by omega
    clear hs
    go_wp2_with (go_at_call 10; refine (KW.out _ hS).mono ?_; rintro e w19 ⟨rfl, hS⟩)
    go_ret
    exact ⟨rfl, HB0.out.trans (Below.mono hS HB0.out.size)⟩
  case pos =>
  have i1 : ¬ (400 : Int) < (s.size : Int) := by omega
  have i1n : ¬ 400 < s.size := by omega
  obtain ⟨er, G, KP0, KR0, hsame, hback, hok⟩ := readings s hs
  have HSM := Lib.hid hsame
  have HBK := Lib.hid hback
  have HOK := Lib.hid hok
  have KP : Hid (∀ W, SW w5 W → Calls Tryz.prog 13 #[.string s] W (RdP er G W)) := Lib.hid (fun W h => KP0 W (HT.out.more h) (H0.out.more h))
  have KR := Lib.hid KR0
  have K1 : Hid (∀ W, SW w5 W → Calls Tryz.prog 11 #[encFl f] W fun e w' => e = .returned (.tuple #[.string (prS f), .int .i64 (prE f)]) ∧ SW w5 w') := Lib.hid (SW.call (fun W h => fprint_any f W (HE.out.more h) (HG.out.more h) HOF.out.car HOF.out.lg (by omega)))
  have K2 : Hid (∀ W, SW w5 W → Calls Tryz.prog 12 #[encFl f] W fun e w' => e = .returned (.tuple #[.string (prS f), .int .i64 (prE f)]) ∧ SW w5 w') := Lib.hid (SW.call (fun W h => rfprint_any f W (HG.out.more h) HOF.out.car HOF.out.lg))
  have K3 : Hid (∀ g g' W, G g → G g' → LegL W (.slice g.A g.lg.length g.c) g.lg → LegL W (.slice g'.A g'.lg.length g'.c) g'.lg → Calls Tryz.prog 15 #[encFl g, encFl g'] W fun e w' => e = .returned (.bool true) ∧ Below W.heap.size W w') := Lib.hid (fun g g' W hg hg' h1 h2 => by have h3 := rsame_any7 g g' W h1 h2 (HOK.out g hg).1 (HOK.out g' hg').1; rw [HSM.out g g' hg hg'] at h3; exact h3)
  have K4 : Hid (er = 0 → ∀ g W, G g → SW w5 W → LegL W (.slice g.A g.lg.length g.c) g.lg → Calls Tryz.prog 11 #[encFl g] W fun e w' => e = .returned (.tuple #[.string s, .int .i64 0]) ∧ Below W.heap.size W w') := Lib.hid (fun he g W hg h hL => by have h3 := fprint_any g W (HE.out.more h) hL (HOK.out g hg).2.1 (HOK.out g hg).2.2 (by have := (HOK.out g hg).1; omega); obtain ⟨e1, e2⟩ := HBK.out he g hg; rw [e1, e2] at h3; exact h3)
  have K5 : Hid (prE f = 0 → ∃ G2 : FV → Prop, (∀ W, SW w5 W → Calls Tryz.prog 13 #[.string (prS f)] W (RdP 0 G2 W)) ∧ (∀ g W, G2 g → SW w5 W → LegL W (.slice g.A g.lg.length g.c) g.lg → Calls Tryz.prog 15 #[encFl g, encFl f] W fun e w' => e = .returned (.bool true) ∧ Below W.heap.size W w')) := Lib.hid (fun he => by
    obtain ⟨G2, h1, h2⟩ := printed he HOF.out.lg
    refine ⟨G2, fun W h => h1 W (HT.out.more h) (H0.out.more h), fun g W hg h hL => ?_⟩
    have h3 := rsame_any7 g f W hL (HG.out.more h) (h2 g hg).2 (by omega)
    rw [(h2 g hg).1] at h3
    exact h3)
  have HNZ : Hid (prE f ≠ 0 → prS f = noB) := Lib.hid (fun h => by unfold prS; rw [if_neg h])
  clear KP0 KR0 hsame hback hok hs hlen
  generalize prS f = ps at *
  generalize prE f = pe at *
  have t1 : (!(ps.toList == ps.toList)) = false := by simp
  have t2 : (pe != pe) = false := by simp
  have t3 : (er != er) = false := by simp
  have k0 := F0.out _ hS
  have k1 := F1.out _ hS
  have k2 := F2.out _ hS
  have k3 := F3.out _ hS
  have k4 := F4.out _ hS
  have k5 := F5.out _ hS
  go_upto_region 6 with (first
    | (go_at_call 11; with_reducible refine (K1.out _ hS).mono ?_; rintro e w2 ⟨rfl, hS⟩; have k0 := F0.out _ hS; have k1 := F1.out _ hS; have k2 := F2.out _ hS; have k3 := F3.out _ hS; have k4 := F4.out _ hS; have k5 := F5.out _ hS)
    | (go_at_call 12; with_reducible refine (K2.out _ hS).mono ?_; rintro e w3 ⟨rfl, hS⟩; have k0 := F0.out _ hS; have k1 := F1.out _ hS; have k2 := F2.out _ hS; have k3 := F3.out _ hS; have k4 := F4.out _ hS; have k5 := F5.out _ hS)
    | (go_at_call 13; with_reducible refine (KP.out _ hS).mono ?_; rintro e w4 ⟨g, rfl, hg, hL4, hb4⟩))
  have hba := bel_alloc w4 (.cells #[.string g.car, .int .i64 g.num, .int .i64 g.pf, .int .i64 g.pt, .int .i64 g.pd, .slice g.A g.lg.length g.c] fliT)
  have y0 := (cells_new w4 #[.string g.car, .int .i64 g.num, .int .i64 g.pf, .int .i64 g.pt, .int .i64 g.pd, .slice g.A g.lg.length g.c] fliT 0).trans (show _ = some (Value.string g.car) from rfl)
  have y1 := (cells_new w4 #[.string g.car, .int .i64 g.num, .int .i64 g.pf, .int .i64 g.pt, .int .i64 g.pd, .slice g.A g.lg.length g.c] fliT 1).trans (show _ = some (Value.int .i64 g.num) from rfl)
  have y2 := (cells_new w4 #[.string g.car, .int .i64 g.num, .int .i64 g.pf, .int .i64 g.pt, .int .i64 g.pd, .slice g.A g.lg.length g.c] fliT 2).trans (show _ = some (Value.int .i64 g.pf) from rfl)
  have y3 := (cells_new w4 #[.string g.car, .int .i64 g.num, .int .i64 g.pf, .int .i64 g.pt, .int .i64 g.pd, .slice g.A g.lg.length g.c] fliT 3).trans (show _ = some (Value.int .i64 g.pt) from rfl)
  have y4 := (cells_new w4 #[.string g.car, .int .i64 g.num, .int .i64 g.pf, .int .i64 g.pt, .int .i64 g.pd, .slice g.A g.lg.length g.c] fliT 4).trans (show _ = some (Value.int .i64 g.pd) from rfl)
  have y5 := (cells_new w4 #[.string g.car, .int .i64 g.num, .int .i64 g.pf, .int .i64 g.pt, .int .i64 g.pd, .slice g.A g.lg.length g.c] fliT 5).trans (show _ = some (Value.slice g.A g.lg.length g.c) from rfl)
  have hS4 : SW w5 w4 := Below.trans hS (Below.mono hb4 hS.size)
  have hS : SW w5 (w4.alloc (.cells #[.string g.car, .int .i64 g.num, .int .i64 g.pf, .int .i64 g.pt, .int .i64 g.pd, .slice g.A g.lg.length g.c] fliT)) := Below.trans hS4 (Below.mono hba hS4.size)
  have hL4a := hL4.more hba
  generalize hw4 : w4.alloc (.cells #[.string g.car, .int .i64 g.num, .int .i64 g.pf, .int .i64 g.pt, .int .i64 g.pd, .slice g.A g.lg.length g.c] fliT) = w4a at *
  clear hw4 hba hL4
  clear k0 k1 k2 k3 k4 k5
  go_upto_region 7 with (go_at_call 14; with_reducible refine (KR.out _).mono ?_; rintro e w6 ⟨gb, rfl, hg2, hL6, hb6⟩)
  have hba := bel_alloc w6 (.cells #[.string gb.car, .int .i64 gb.num, .int .i64 gb.pf, .int .i64 gb.pt, .int .i64 gb.pd, .slice gb.A gb.lg.length gb.c] fliT)
  have h0 := (cells_new w6 #[.string gb.car, .int .i64 gb.num, .int .i64 gb.pf, .int .i64 gb.pt, .int .i64 gb.pd, .slice gb.A gb.lg.length gb.c] fliT 0).trans (show _ = some (Value.string gb.car) from rfl)
  have h1 := (cells_new w6 #[.string gb.car, .int .i64 gb.num, .int .i64 gb.pf, .int .i64 gb.pt, .int .i64 gb.pd, .slice gb.A gb.lg.length gb.c] fliT 1).trans (show _ = some (Value.int .i64 gb.num) from rfl)
  have h2 := (cells_new w6 #[.string gb.car, .int .i64 gb.num, .int .i64 gb.pf, .int .i64 gb.pt, .int .i64 gb.pd, .slice gb.A gb.lg.length gb.c] fliT 2).trans (show _ = some (Value.int .i64 gb.pf) from rfl)
  have h3 := (cells_new w6 #[.string gb.car, .int .i64 gb.num, .int .i64 gb.pf, .int .i64 gb.pt, .int .i64 gb.pd, .slice gb.A gb.lg.length gb.c] fliT 3).trans (show _ = some (Value.int .i64 gb.pt) from rfl)
  have h4 := (cells_new w6 #[.string gb.car, .int .i64 gb.num, .int .i64 gb.pf, .int .i64 gb.pt, .int .i64 gb.pd, .slice gb.A gb.lg.length gb.c] fliT 4).trans (show _ = some (Value.int .i64 gb.pd) from rfl)
  have h5 := (cells_new w6 #[.string gb.car, .int .i64 gb.num, .int .i64 gb.pf, .int .i64 gb.pt, .int .i64 gb.pd, .slice gb.A gb.lg.length gb.c] fliT 5).trans (show _ = some (Value.slice gb.A gb.lg.length gb.c) from rfl)
  have hS6 : SW w5 w6 := Below.trans hS (Below.mono hb6 hS.size)
  have hS : SW w5 (w6.alloc (.cells #[.string gb.car, .int .i64 gb.num, .int .i64 gb.pf, .int .i64 gb.pt, .int .i64 gb.pd, .slice gb.A gb.lg.length gb.c] fliT)) := Below.trans hS6 (Below.mono hba hS6.size)
  have hLa := hL4a.more (hb6.trans (hba.mono hb6.size))
  have hLb := hL6.more hba
  have y0 := bel_cell (hb6.trans (hba.mono hb6.size)) y0
  have y1 := bel_cell (hb6.trans (hba.mono hb6.size)) y1
  have y2 := bel_cell (hb6.trans (hba.mono hb6.size)) y2
  have y3 := bel_cell (hb6.trans (hba.mono hb6.size)) y3
  have y4 := bel_cell (hb6.trans (hba.mono hb6.size)) y4
  have y5 := bel_cell (hb6.trans (hba.mono hb6.size)) y5
  generalize hw6 : w6.alloc (.cells #[.string gb.car, .int .i64 gb.num, .int .i64 gb.pf, .int .i64 gb.pt, .int .i64 gb.pd, .slice gb.A gb.lg.length gb.c] fliT) = w6a at *
  clear hw6 hba hL6 hL4a hb6 hb4 hS4 hS6
  go_upto_region 9 with (go_at_call 15; with_reducible refine (K3.out _ _ _ hg.out hg2.out hLa hLb).mono ?_; rintro e w7 ⟨rfl, hb7⟩)
  have hS7 : SW w5 w7 := Below.trans hS (Below.mono hb7 hS.size)
  have y0 := bel_cell hb7 y0
  have y1 := bel_cell hb7 y1
  have y2 := bel_cell hb7 y2
  have y3 := bel_cell hb7 y3
  have y4 := bel_cell hb7 y4
  have y5 := bel_cell hb7 y5
  clear h0 h1 h2 h3 h4 h5
  have HL7 := Lib.hid (hLa.more hb7)
  clear hLa hLb hS hb7 K1 K2 K3 KP KR
  cases q1 : (er == 0) with
  | false =>
    have hS := hS7
    clear y0 y1 y2 y3 y4 y5 HL7 K4
    cases q2 : (pe != 0) with
    | true =>
      have hz := HNZ.out (by simpa using q2)
      subst hz
      have t4 : (noB.toList == (⟨#[]⟩ : ByteArray).toList) = true := by have e : noB = ⟨#[]⟩ := rfl; rw [e]; exact beq_self_eq_true _
      go_wp2_with (go_at_call 10; refine (KW.out _ hS).mono ?_; rintro e w19 ⟨rfl, hS⟩)
      go_ret
      exact ⟨rfl, HB0.out.trans (Below.mono hS HB0.out.size)⟩
    | false =>
    have hz : pe = 0 := by simpa using q2
    obtain ⟨G2, K6, K7⟩ := K5.out hz
    have K6 := Lib.hid K6
    have K7 := Lib.hid K7
    subst hz
    go_upto_region 16 with (go_at_call 13; with_reducible refine (K6.out _ hS).mono ?_; rintro e w10 ⟨gc, rfl, hg3, hL10, hb10⟩)
    have hba := bel_alloc w10 (.cells #[.string gc.car, .int .i64 gc.num, .int .i64 gc.pf, .int .i64 gc.pt, .int .i64 gc.pd, .slice gc.A gc.lg.length gc.c] fliT)
    have x0 := (cells_new w10 #[.string gc.car, .int .i64 gc.num, .int .i64 gc.pf, .int .i64 gc.pt, .int .i64 gc.pd, .slice gc.A gc.lg.length gc.c] fliT 0).trans (show _ = some (Value.string gc.car) from rfl)
    have x1 := (cells_new w10 #[.string gc.car, .int .i64 gc.num, .int .i64 gc.pf, .int .i64 gc.pt, .int .i64 gc.pd, .slice gc.A gc.lg.length gc.c] fliT 1).trans (show _ = some (Value.int .i64 gc.num) from rfl)
    have x2 := (cells_new w10 #[.string gc.car, .int .i64 gc.num, .int .i64 gc.pf, .int .i64 gc.pt, .int .i64 gc.pd, .slice gc.A gc.lg.length gc.c] fliT 2).trans (show _ = some (Value.int .i64 gc.pf) from rfl)
    have x3 := (cells_new w10 #[.string gc.car, .int .i64 gc.num, .int .i64 gc.pf, .int .i64 gc.pt, .int .i64 gc.pd, .slice gc.A gc.lg.length gc.c] fliT 3).trans (show _ = some (Value.int .i64 gc.pt) from rfl)
    have x4 := (cells_new w10 #[.string gc.car, .int .i64 gc.num, .int .i64 gc.pf, .int .i64 gc.pt, .int .i64 gc.pd, .slice gc.A gc.lg.length gc.c] fliT 4).trans (show _ = some (Value.int .i64 gc.pd) from rfl)
    have x5 := (cells_new w10 #[.string gc.car, .int .i64 gc.num, .int .i64 gc.pf, .int .i64 gc.pt, .int .i64 gc.pd, .slice gc.A gc.lg.length gc.c] fliT 5).trans (show _ = some (Value.slice gc.A gc.lg.length gc.c) from rfl)
    have hS10 : SW w5 w10 := Below.trans hS (Below.mono hb10 hS.size)
    have hS : SW w5 (w10.alloc (.cells #[.string gc.car, .int .i64 gc.num, .int .i64 gc.pf, .int .i64 gc.pt, .int .i64 gc.pd, .slice gc.A gc.lg.length gc.c] fliT)) := Below.trans hS10 (Below.mono hba hS10.size)
    have hLx := hL10.more hba
    generalize hw10 : w10.alloc (.cells #[.string gc.car, .int .i64 gc.num, .int .i64 gc.pf, .int .i64 gc.pt, .int .i64 gc.pd, .slice gc.A gc.lg.length gc.c] fliT) = w10a at *
    clear hw10 hba
    have k0 := F0.out _ hS
    have k1 := F1.out _ hS
    have k2 := F2.out _ hS
    have k3 := F3.out _ hS
    have k4 := F4.out _ hS
    have k5 := F5.out _ hS
    go_wp2_with (first
      | (go_at_call 10; with_reducible refine (KW.out _ hS).mono ?_; rintro e w19 ⟨rfl, hS⟩)
      | (go_at_call 15; with_reducible refine (K7.out _ _ hg3.out hS hLx).mono ?_; rintro e w11 ⟨rfl, hb11⟩; have hS : SW w5 w11 := Below.trans hS (Below.mono hb11 hS.size)))
    go_ret
    exact ⟨rfl, HB0.out.trans (Below.mono hS HB0.out.size)⟩
  | true =>
    have he : er = 0 := by simpa using q1
    have KK4 := Lib.hid (K4.out he)
    clear K4
    subst he
    have t5 : (!(s.toList == s.toList)) = false := by simp
    go_upto_region 13 with (go_at_call 11; with_reducible refine (KK4.out _ _ hg.out hS7 HL7.out).mono ?_; rintro e w8 ⟨rfl, hb8⟩)
    have hS : SW w5 w8 := Below.trans hS7 (Below.mono hb8 hS7.size)
    clear y0 y1 y2 y3 y4 y5 HL7 KK4
    cases q2 : (pe != 0) with
    | true =>
      have hz := HNZ.out (by simpa using q2)
      subst hz
      have t4 : (noB.toList == (⟨#[]⟩ : ByteArray).toList) = true := by have e : noB = ⟨#[]⟩ := rfl; rw [e]; exact beq_self_eq_true _
      go_wp2_with (go_at_call 10; refine (KW.out _ hS).mono ?_; rintro e w19 ⟨rfl, hS⟩)
      go_ret
      exact ⟨rfl, HB0.out.trans (Below.mono hS HB0.out.size)⟩
    | false =>
    have hz : pe = 0 := by simpa using q2
    obtain ⟨G2, K6, K7⟩ := K5.out hz
    have K6 := Lib.hid K6
    have K7 := Lib.hid K7
    subst hz
    go_upto_region 16 with (go_at_call 13; with_reducible refine (K6.out _ hS).mono ?_; rintro e w10 ⟨gc, rfl, hg3, hL10, hb10⟩)
    have hba := bel_alloc w10 (.cells #[.string gc.car, .int .i64 gc.num, .int .i64 gc.pf, .int .i64 gc.pt, .int .i64 gc.pd, .slice gc.A gc.lg.length gc.c] fliT)
    have x0 := (cells_new w10 #[.string gc.car, .int .i64 gc.num, .int .i64 gc.pf, .int .i64 gc.pt, .int .i64 gc.pd, .slice gc.A gc.lg.length gc.c] fliT 0).trans (show _ = some (Value.string gc.car) from rfl)
    have x1 := (cells_new w10 #[.string gc.car, .int .i64 gc.num, .int .i64 gc.pf, .int .i64 gc.pt, .int .i64 gc.pd, .slice gc.A gc.lg.length gc.c] fliT 1).trans (show _ = some (Value.int .i64 gc.num) from rfl)
    have x2 := (cells_new w10 #[.string gc.car, .int .i64 gc.num, .int .i64 gc.pf, .int .i64 gc.pt, .int .i64 gc.pd, .slice gc.A gc.lg.length gc.c] fliT 2).trans (show _ = some (Value.int .i64 gc.pf) from rfl)
    have x3 := (cells_new w10 #[.string gc.car, .int .i64 gc.num, .int .i64 gc.pf, .int .i64 gc.pt, .int .i64 gc.pd, .slice gc.A gc.lg.length gc.c] fliT 3).trans (show _ = some (Value.int .i64 gc.pt) from rfl)
    have x4 := (cells_new w10 #[.string gc.car, .int .i64 gc.num, .int .i64 gc.pf, .int .i64 gc.pt, .int .i64 gc.pd, .slice gc.A gc.lg.length gc.c] fliT 4).trans (show _ = some (Value.int .i64 gc.pd) from rfl)
    have x5 := (cells_new w10 #[.string gc.car, .int .i64 gc.num, .int .i64 gc.pf, .int .i64 gc.pt, .int .i64 gc.pd, .slice gc.A gc.lg.length gc.c] fliT 5).trans (show _ = some (Value.slice gc.A gc.lg.length gc.c) from rfl)
    have hS10 : SW w5 w10 := Below.trans hS (Below.mono hb10 hS.size)
    have hS : SW w5 (w10.alloc (.cells #[.string gc.car, .int .i64 gc.num, .int .i64 gc.pf, .int .i64 gc.pt, .int .i64 gc.pd, .slice gc.A gc.lg.length gc.c] fliT)) := Below.trans hS10 (Below.mono hba hS10.size)
    have hLx := hL10.more hba
    generalize hw10 : w10.alloc (.cells #[.string gc.car, .int .i64 gc.num, .int .i64 gc.pf, .int .i64 gc.pt, .int .i64 gc.pd, .slice gc.A gc.lg.length gc.c] fliT) = w10a at *
    clear hw10 hba
    have k0 := F0.out _ hS
    have k1 := F1.out _ hS
    have k2 := F2.out _ hS
    have k3 := F3.out _ hS
    have k4 := F4.out _ hS
    have k5 := F5.out _ hS
    go_wp2_with (first
      | (go_at_call 10; with_reducible refine (KW.out _ hS).mono ?_; rintro e w19 ⟨rfl, hS⟩)
      | (go_at_call 15; with_reducible refine (K7.out _ _ hg3.out hS hLx).mono ?_; rintro e w11 ⟨rfl, hb11⟩; have hS : SW w5 w11 := Below.trans hS (Below.mono hb11 hS.size)))
    go_ret
    exact ⟨rfl, HB0.out.trans (Below.mono hS HB0.out.size)⟩

end Go.Proofs.YtmmpalnalogfnaaGreatDoor
