/- All. -/
import Derived.Test.YthillkbcbklhaaaHldH
namespace Go.Proofs.Ythillkbcbklhaaa
open Go.RowKit Go.Shelf Go.Maps Go.MapKept
set_option linter.unusedSimpArgs false
set_option linter.unusedVariables false

/-- what a hold says, wherever its list of legs lies -/
def conH (h : Hd) : Int × List Lid × ByteArray × Int × Int := (h.id, h.l, h.cls, h.cnt, h.til)
/-- five stores into a row -/
def S5o (w : World) (b o : Nat) (h : Hd) : World := ((((w.setCell ⟨b, o, none⟩ (.int .i64 h.id)).setCell ⟨b, o + 1, none⟩ (.slice h.A h.l.length h.c)).setCell ⟨b, o + 2, none⟩ (.string h.cls)).setCell ⟨b, o + 3, none⟩ (.int .i64 h.cnt)).setCell ⟨b, o + 4, none⟩ (.int .i64 h.til)
theorem S5o.but (w : World) (b o : Nat) (h : Hd) : But w (S5o w b o h) (fun k => k = b) :=
  ((((But.setCell w b _ _).trans (But.setCell _ b _ _) (fun _ _ h => h)).trans (But.setCell _ b _ _) (fun _ _ h => h)).trans (But.setCell _ b _ _) (fun _ _ h => h)).trans (But.setCell _ b _ _) (fun _ _ h => h)
theorem S5o.frozen (w : World) (b o : Nat) (h : Hd) (a : Addr) : (S5o w b o h).frozen? a = w.frozen? a := by
  unfold S5o
  rw [World.frozen?_setCell, World.frozen?_setCell, World.frozen?_setCell, World.frozen?_setCell, World.frozen?_setCell]
theorem S5o.other (w : World) (b o : Nat) (h : Hd) (t : Nat) (ht : t < o ∨ o + 5 ≤ t) : (S5o w b o h).cell? ⟨b, t, none⟩ = w.cell? ⟨b, t, none⟩ := by
  unfold S5o
  have ne0 : (⟨b, o, none⟩ : Addr) ≠ ⟨b, t, none⟩ := fun e => by simp only [Addr.mk.injEq] at e; omega
  have ne : ∀ j, j < 5 → (⟨b, o + j, none⟩ : Addr) ≠ ⟨b, t, none⟩ := fun j hj e => by simp only [Addr.mk.injEq] at e; omega
  rw [World.cell?_setCell_other _ _ _ _ (ne 4 (by omega)), World.cell?_setCell_other _ _ _ _ (ne 3 (by omega)), World.cell?_setCell_other _ _ _ _ (ne 2 (by omega)), World.cell?_setCell_other _ _ _ _ (ne 1 (by omega)), World.cell?_setCell_other _ _ _ _ ne0]
theorem S5o.at (w : World) (b o : Nat) (h : Hd) (hc : ∀ j, j < 5 → ∃ v, w.cell? ⟨b, o + j, none⟩ = some v) : ∀ j u, (encH h)[j]? = some u → (S5o w b o h).cell? ⟨b, o + j, none⟩ = some u := by
  have ne : ∀ i j, i ≠ j → (⟨b, o + i, none⟩ : Addr) ≠ ⟨b, o + j, none⟩ := fun i j hij e => by simp only [Addr.mk.injEq] at e; omega
  obtain ⟨v0, h0⟩ := hc 0 (by omega)
  obtain ⟨v1, h1⟩ := hc 1 (by omega)
  obtain ⟨v2, h2⟩ := hc 2 (by omega)
  obtain ⟨v3, h3⟩ := hc 3 (by omega)
  obtain ⟨v4, h4⟩ := hc 4 (by omega)
  rw [Nat.add_zero] at h0
  intro j u hu
  unfold S5o
  have n0 : ∀ j, 0 < j → (⟨b, o, none⟩ : Addr) ≠ ⟨b, o + j, none⟩ := fun j hj e => by simp only [Addr.mk.injEq] at e; omega
  have n0' : ∀ j, 0 < j → (⟨b, o + j, none⟩ : Addr) ≠ ⟨b, o, none⟩ := fun j hj e => n0 j hj e.symm
  match j, hu with
  | 0, hu =>
    cases hu
    show World.cell? _ ⟨b, o, none⟩ = _
    rw [World.cell?_setCell_other _ _ _ _ (n0' 4 (by omega)), World.cell?_setCell_other _ _ _ _ (n0' 3 (by omega)), World.cell?_setCell_other _ _ _ _ (n0' 2 (by omega)), World.cell?_setCell_other _ _ _ _ (n0' 1 (by omega)), World.cell?_setCell_same _ _ _ h0]
  | 1, hu =>
    cases hu
    rw [World.cell?_setCell_other _ _ _ _ (ne 4 1 (by omega)), World.cell?_setCell_other _ _ _ _ (ne 3 1 (by omega)), World.cell?_setCell_other _ _ _ _ (ne 2 1 (by omega)), World.cell?_setCell_same _ _ _ (by rw [World.cell?_setCell_other _ _ _ _ (n0 1 (by omega))]; exact h1)]
  | 2, hu =>
    cases hu
    rw [World.cell?_setCell_other _ _ _ _ (ne 4 2 (by omega)), World.cell?_setCell_other _ _ _ _ (ne 3 2 (by omega)), World.cell?_setCell_same _ _ _ (by rw [World.cell?_setCell_other _ _ _ _ (ne 1 2 (by omega)), World.cell?_setCell_other _ _ _ _ (n0 2 (by omega))]; exact h2)]
  | 3, hu =>
    cases hu
    rw [World.cell?_setCell_other _ _ _ _ (ne 4 3 (by omega)), World.cell?_setCell_same _ _ _ (by rw [World.cell?_setCell_other _ _ _ _ (ne 2 3 (by omega)), World.cell?_setCell_other _ _ _ _ (ne 1 3 (by omega)), World.cell?_setCell_other _ _ _ _ (n0 3 (by omega))]; exact h3)]
  | 4, hu =>
    cases hu
    rw [World.cell?_setCell_same _ _ _ (by rw [World.cell?_setCell_other _ _ _ _ (ne 3 4 (by omega)), World.cell?_setCell_other _ _ _ _ (ne 2 4 (by omega)), World.cell?_setCell_other _ _ _ _ (ne 1 4 (by omega)), World.cell?_setCell_other _ _ _ _ (n0 4 (by omega))]; exact h4)]
  | j + 5, hu => simp [encH] at hu
/-- while the holds are copied: the first k of them are copies -/
structure CpS (w : World) (hs : List Hd) (b k : Nat) (W : World) (ms : List Hd) : Prop where
  len : ms.length = hs.length
  row : ∀ (i : Nat) (x : Hd) (j : Nat) (u : Value), ms[i]? = some x → (encH x)[j]? = some u → W.cell? ⟨b, i * 5 + j, none⟩ = some u
  froz : ∀ t : Nat, t < hs.length * 5 → W.frozen? ⟨b, t, none⟩ = false
  con : ∀ i : Nat, (ms[i]?).map conH = (hs[i]?).map conH
  old : ∀ i : Nat, k ≤ i → ms[i]? = hs[i]?
  legs : ∀ (i : Nat) (x : Hd), i < k → ms[i]? = some x → RowIn (fun t => w.heap.size ≤ t ∧ t ≠ b) 4 encD W x.A x.l
  bel : Below w.heap.size w W
  lt : b < W.heap.size
  le : w.heap.size ≤ b
theorem CpS.step {w : World} {hs : List Hd} {b k : Nat} {W W7 : World} {ms : List Hd} (h : CpS w hs b k W ms) (hb : Below W.heap.size W W7) {x : Hd} (hx : hs[k]? = some x) {A' : Option Addr} {c' : Nat} (hr : RowIn (fun t => W.heap.size ≤ t) 4 encD W7 A' x.l) :
    CpS w hs b (k + 1) (S5o W7 b (k * 5) { x with A := A', c := c' }) (ms.set k { x with A := A', c := c' }) := by
  have hk := (List.getElem?_eq_some_iff.1 hx).1
  have hbut := S5o.but W7 b (k * 5) { x with A := A', c := c' }
  have hkm : k < ms.length := by rw [h.len]; exact hk
  have hlt := h.lt
  have hle := h.le
  have hs1 := hb.size
  have hmk : ms[k]? = some x := (h.old k (Nat.le_refl _)).trans hx
  have cell7 : ∀ i y j u, ms[i]? = some y → (encH y)[j]? = some u → W7.cell? ⟨b, i * 5 + j, none⟩ = some u := fun i y j u h1 h2 => bel_cell hb (h.row i y j u h1 h2)
  refine ⟨by rw [List.length_set]; exact h.len, fun i y j u hi hu => ?_, fun t ht => ?_, fun i => ?_, fun i hi => ?_, fun i y hi hy => ?_, ?_, Nat.lt_of_lt_of_le hlt (Nat.le_trans hs1 hbut.size), hle⟩
  · rw [List.getElem?_set] at hi
    have hj : j < 5 := by have := (List.getElem?_eq_some_iff.1 hu).1; exact this
    split at hi
    · rename_i e
      subst e
      cases hi
      exact S5o.at W7 b (k * 5) _ (fun j hj => by
        have h5 : j < (encH x).length := hj
        exact ⟨_, cell7 k x j _ hmk (List.getElem?_eq_getElem h5)⟩) j u hu
    · rename_i e
      rw [S5o.other W7 b (k * 5) _ (i * 5 + j) (by omega)]
      exact cell7 i y j u hi hu
  · rw [S5o.frozen]
    exact (but_froz (X := fun _ => False) (Below.but _ hb) hlt (fun e => e)).trans (h.froz t ht)
  · rw [List.getElem?_set]
    split
    · rename_i e
      subst e
      rw [hx]
      rfl
    · exact h.con i
  · rw [List.getElem?_set, if_neg (by omega)]
    exact h.old i (by omega)
  · rw [List.getElem?_set] at hy
    split at hy
    · rename_i e
      subst e
      cases hy
      exact (hr.but hbut (fun t e ht => by omega)).imp (fun t ht => ⟨by omega, by omega⟩)
    · exact ((h.legs i y (by omega) hy).more hb).but hbut (fun t e ht => ht.2 e)
  · exact h.bel.trans ((hb.mono h.bel.size).trans (hbut.below (Nat.le_trans h.bel.size hs1) (fun t ht e => by omega)))
/-- what All hands back -/
def AllR (hs : List Hd) (w : World) (e : Ending) (w' : World) : Prop := ∃ A c zs, e = .returned (.slice A zs.length c) ∧ HdL w' (.slice A zs.length c) zs ∧ zs.map conH = hs.map conH ∧ (∀ z ∈ zs, LidL w' (.slice z.A z.l.length z.c) z.l) ∧ (zs.length ≤ 1000 ∧ RowIn (fun t => w.heap.size ≤ t) 5 encH w' A zs) ∧ Below w.heap.size w w'
set_option maxRecDepth 100000 in
set_option maxHeartbeats 1000000 in
theorem all_void (p : Option Addr) (w : World) (hv : VoidH w p) : Calls Try.prog 23 #[.pointer p] w fun e w' => e = .returned (.slice none 0 0) ∧ w' = w := by
  have K := Lib.hid (sorted_void p w hv)
  clear hv
  go_enter Try.func23, Try.ntmps23
  go_upto_region 3 with (go_at_call 33; (with_reducible refine K.out.mono ?_); rintro e w6 ⟨rfl, rfl⟩)
  go_loopw [10] (fun vi wr => vi = .int .i64 0 ∧ wr = w6) (fun _ _ => 0)
  case atStart => exact ⟨rfl, rfl⟩
  case round =>
    obtain ⟨rfl, rfl⟩ := hrel
    go_wp2
    go_ret
    exact ⟨rfl, rfl⟩
set_option maxRecDepth 100000 in
set_option maxHeartbeats 8000000 in
theorem all_any {B mb n : Nat} {hs : List Hd} (w : World) (hS : HldAt w B mb n hs) (hn : n ≤ 1000) :
    Calls Try.prog 23 #[.pointer (some ⟨B, 0, none⟩)] w fun e w' => AllR hs w e w' := by
  have K0 := Lib.hid (sorted_any w hS hn)
  have HLG : Hid (∀ x ∈ hs, x.l.length ≤ 1000 ∧ RowIn (fun k => k ≠ mb) 4 encD w x.A x.l) := Lib.hid (fun x hx => ⟨(hS.ok x hx).1.len, (hS.ok x hx).2.1⟩)
  have KC : Hid (∀ (x : Hd) W, x ∈ hs → Below w.heap.size w W → Calls Try.prog 27 #[aggH x] W fun e w' => ∃ A' c', e = .returned (aggH { x with A := A', c := c' }) ∧ RowIn (fun b => W.heap.size ≤ b) 4 encD w' A' x.l ∧ Below W.heap.size W w') := Lib.hid (fun x W hx hb => clone_any x W (HLG.out x hx).1 (((HLG.out x hx).2.rowL x.c).more hb))
  clear hS
  unfold AllR
  go_enter Try.func23, Try.ntmps23
  go_upto_region 2 with (go_at_call 33; (with_reducible refine K0.out.mono ?_); rintro e w6 ⟨v, rfl, hO, hln, hb6⟩)
  have hlen : hs.length ≤ 1000 := Nat.le_trans hln hn
  clear hln
  obtain ⟨A0, c0, rfl, _⟩ := id hO.row
  have hfr : hs = [] ∨ (hs ≠ [] ∧ ∃ b c, Value.slice A0 hs.length c0 = .slice (some ⟨b, 0, none⟩) hs.length c ∧ w.heap.size ≤ b ∧ ∀ t, t < hs.length * 5 → w6.frozen? ⟨b, t, none⟩ = false) := by
    by_cases he : hs = []
    · exact .inl he
    · exact .inr ⟨he, hO.fresh.resolve_left he⟩
  rcases hfr with he | ⟨hne, b, cb, e1, hlb, hfz⟩
  · subst he
    have HB6 := Lib.hid hb6
    clear hO hb6
    go_upto_region 3 with fail
    go_loopw [10] (fun vi wr => vi = .int .i64 0 ∧ wr = w6) (fun _ _ => 0)
    case atStart => exact ⟨rfl, rfl⟩
    case round =>
      obtain ⟨rfl, rfl⟩ := hrel
      go_wp2
      go_ret
      exact ⟨A0, c0, [], rfl, ⟨A0, c0, rfl, .inl rfl⟩, rfl, fun z hz => (by cases hz), ⟨Nat.zero_le _, .inl rfl⟩, HB6.out⟩
  · simp only [Value.slice.injEq, true_and] at e1
    obtain ⟨rfl, rfl⟩ := e1
    have HC : Hid (CpS w hs b 0 w6 hs) := Lib.hid (by
      have hrl := hO.row
      refine ⟨rfl, fun i x j u hi hu => ?_, hfz, fun i => rfl, fun i _ => rfl, fun i x hi => absurd hi (Nat.not_lt_zero _), hb6, ?_, hlb⟩
      · obtain ⟨b', o', e2, _, hc⟩ := row_get hrl hi
        simp only [Option.some.injEq, Addr.mk.injEq, and_true] at e2
        obtain ⟨rfl, rfl⟩ := e2
        have := hc j u hu
        rwa [Nat.zero_add] at this
      · obtain ⟨A9, c9, e9, h9⟩ := hrl
        rcases h9 with h9 | ⟨b9, o9, e8, h8, _⟩
        · exact absurd h9 hne
        · simp only [Value.slice.injEq] at e9
          rw [← e9.1] at e8
          simp only [Option.some.injEq, Addr.mk.injEq, and_true] at e8
          rw [e8.1]
          exact h8)
    clear hO hb6 hfz hlb hne
    go_wp2
    go_loopw [10] (fun vi wr => ∃ k : Nat, k ≤ hs.length ∧ vi = .int .i64 k ∧ Hid (∃ ms, CpS w hs b k wr ms)) (fun vi _ => hs.length - (intOf vi).toNat)
    case atStart => exact ⟨0, Nat.zero_le _, rfl, Lib.hid ⟨hs, HC.out⟩⟩
    case round =>
      obtain ⟨k, hk, rfl, HI⟩ := hrel
      obtain ⟨ms, hI⟩ := HI.out
      by_cases hlt : k < hs.length
      · obtain ⟨x, hx⟩ : ∃ x, hs[k]? = some x := ⟨_, List.getElem?_eq_getElem hlt⟩
        have hmk : ms[k]? = some x := (hI.old k (Nat.le_refl _)).trans hx
        have x0 := hI.row k x 0 _ hmk rfl
        have x1 := hI.row k x 1 _ hmk rfl
        have x2 := hI.row k x 2 _ hmk rfl
        have x3 := hI.row k x 3 _ hmk rfl
        have x4 := hI.row k x 4 _ hmk rfl
        rw [Nat.add_zero] at x0
        have i1 : (0 : Int) ≤ (k : Int) := by omega
        have i2 : (k : Int) < (hs.length : Int) := by omega
        have wr1 : IntKind.i64.wrap ((k : Int) + 1) = (k : Int) + 1 := IntWalk.i64_in _ (by omega)
        have hbA := bel_alloc wr (.cells #[.int .i64 x.id, .slice x.A x.l.length x.c, .string x.cls, .int .i64 x.cnt, .int .i64 x.til] hdT)
        have KC2 := Lib.hid (KC.out x (wr.alloc (.cells #[.int .i64 x.id, .slice x.A x.l.length x.c, .string x.cls, .int .i64 x.cnt, .int .i64 x.til] hdT)) (List.mem_of_getElem? hx) (hI.bel.trans (hbA.mono hI.bel.size)))
        have HX := Lib.hid hx
        have HBA := Lib.hid hbA
        have HCI := Lib.hid hI
        clear hx hmk hbA hI HI
        go_upto_region 5 with fail
        go_wp2_with (go_at_call 27; (with_reducible refine KC2.out.mono ?_); rintro e w7 ⟨A', c', rfl, hrow, hb7⟩; have hb37 := Below.trans HBA.out (Below.mono hb7 HBA.out.size); have f0 := (but_froz (X := fun _ => False) (Below.but _ hb37) HCI.out.lt (fun e => e)).trans (HCI.out.froz (k * 5) (by omega)); have f1 := (but_froz (a := ⟨b, k * 5 + 1, none⟩) (X := fun _ => False) (Below.but _ hb37) HCI.out.lt (fun e => e)).trans (HCI.out.froz (k * 5 + 1) (by omega)); have f2 := (but_froz (a := ⟨b, k * 5 + 2, none⟩) (X := fun _ => False) (Below.but _ hb37) HCI.out.lt (fun e => e)).trans (HCI.out.froz (k * 5 + 2) (by omega)); have f3 := (but_froz (a := ⟨b, k * 5 + 3, none⟩) (X := fun _ => False) (Below.but _ hb37) HCI.out.lt (fun e => e)).trans (HCI.out.froz (k * 5 + 3) (by omega)); have f4 := (but_froz (a := ⟨b, k * 5 + 4, none⟩) (X := fun _ => False) (Below.but _ hb37) HCI.out.lt (fun e => e)).trans (HCI.out.froz (k * 5 + 4) (by omega)); have x0 := bel_cell hb37 x0; have x1 := bel_cell hb37 x1; have x2 := bel_cell hb37 x2; have x3 := bel_cell hb37 x3; have x4 := bel_cell hb37 x4)
        have HE : Hid (CpS w hs b (k + 1) (S5o w7 b (k * 5) { x with A := A', c := c' }) (ms.set k { x with A := A', c := c' })) := Lib.hid (HCI.out.step hb37 HX.out (hrow.imp (fun t ht => Nat.le_trans HBA.out.size ht)))
        clear f0 f1 f2 f3 f4 x0 x1 x2 x3 x4 hrow hb7 hb37
        go_roundw
        case rel => exact ⟨k + 1, by omega, by go_num, Lib.hid ⟨_, HE.out⟩⟩
        case measure => simp [intOf]; omega
      · obtain rfl : k = hs.length := by omega
        have i2 : ¬ (hs.length : Int) < (hs.length : Int) := by omega
        have HZ : Hid (ms.length = hs.length ∧ HdL wr (.slice (some ⟨b, 0, none⟩) ms.length c0) ms ∧ ms.map conH = hs.map conH ∧ (∀ z ∈ ms, LidL wr (.slice z.A z.l.length z.c) z.l) ∧ (ms.length ≤ 1000 ∧ RowIn (fun t => w.heap.size ≤ t) 5 encH wr (some ⟨b, 0, none⟩) ms) ∧ Below w.heap.size w wr) := Lib.hid (by
          refine ⟨hI.len, ⟨_, c0, rfl, .inr ⟨b, 0, rfl, hI.lt, fun i x j u hi hu => by rw [Nat.zero_add]; exact hI.row i x j u hi hu⟩⟩, List.ext_getElem? (fun i => by rw [List.getElem?_map, List.getElem?_map]; exact hI.con i), fun z hz => ?_, ⟨by rw [hI.len]; exact hlen, .inr ⟨b, 0, rfl, hI.le, hI.lt, fun i x j u hi hu => by rw [Nat.zero_add]; exact hI.row i x j u hi hu⟩⟩, hI.bel⟩
          obtain ⟨i, hi, rfl⟩ := List.getElem_of_mem hz
          exact (hI.legs i _ (by rw [← hI.len]; exact hi) (List.getElem?_eq_getElem hi)).rowL _)
        clear hI HI
        go_wp2
        go_ret
        exact ⟨some ⟨b, 0, none⟩, c0, ms, by rw [HZ.out.1]; rfl, HZ.out.2.1, HZ.out.2.2.1, HZ.out.2.2.2.1, HZ.out.2.2.2.2.1, HZ.out.2.2.2.2.2⟩
end Go.Proofs.Ythillkbcbklhaaa
