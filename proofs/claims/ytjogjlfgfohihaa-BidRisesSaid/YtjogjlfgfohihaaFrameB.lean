/- What a row on demands, curves and seats that lists no variable asks besides the walks: arguments opened. -/
import Derived.WalkKit
import Derived.ProofKit
import Derived.OpenShut
import Derived.ShutString
import Derived.Carry
import Derived.SizedLaws
import Derived.SliceStrings
import Derived.Lib.SmallJoins
import Derived.Deep.SlicePairs
import Derived.JoinedCond
import Derived.Test.YtjogjlfgfohihaaRows
import Derived.ChangeMaps5
import Derived.ChangeSlices
import Derived.Test.YtjogjlfgfohihaaBidG
namespace Go.Proofs.Ytjogjlfgfohihaa
open Go.ChangeShapes Go.WideShapes Go.ChangeAt Go.RowKit
set_option linter.unusedSimpArgs false
set_option linter.unusedVariables false

theorem own : ownKnob Try.prog.godebug = none := by kernel_rfl
theorem laidOut : laidOutB Try.prog = true := by kernel_rfl
theorem int_bounds {a : Int} (h : (Lit.int .i64 a).wf = true) : -9223372036854775808 ≤ a ∧ a ≤ 9223372036854775807 := by
  have e1 : IntKind.i64.min = -9223372036854775808 := rfl
  have e2 : IntKind.i64.max = 9223372036854775807 := rfl
  simp only [Lit.wf, e1, e2, Bool.and_eq_true, decide_eq_true_eq] at h
  omega
theorem cells_int : Try.prog.cellsOf 3 = 1 := by kernel_rfl
theorem len2 {α : Type} : ∀ {l : List α}, l.length = 2 → ∃ a b, l = [a, b]
  | [a, b], _ => ⟨a, b, rfl⟩
theorem len4 {α : Type} : ∀ {l : List α}, l.length = 4 → ∃ a b c d, l = [a, b, c, d]
  | [a, b, c, d], _ => ⟨a, b, c, d, rfl⟩
theorem list_at {α : Type} (f : Nat → α) (n i : Nat) (a : α) (h : ((List.range n).map f)[i]? = some a) : i < n ∧ a = f i := by
  have hi : i < n := by have := (List.getElem?_eq_some_iff.1 h).1; simpa using this
  rw [List.getElem?_map, List.getElem?_range hi] at h
  exact ⟨hi, (Option.some.inj h).symm⟩
set_option maxRecDepth 100000 in
theorem read_rowC {α : Type} [Inhabited α] {sz : Nat} {enc' : α → List Value} {Ok : α → Prop} {H : Type} {enc : TypeId × Value → H} {W : World} {n : Nat} {v : Value} {y : DataW H × List MemPlace} {ts te : TypeId} (hu : Try.prog.underlying ts = some (.slice te)) (hce : Try.prog.cellsOf te = sz) (h1 : 0 < sz) (he : ∀ x, (enc' x).length = sz)
    (hread : ∀ m cs yy, cs.length = sz → DataW.trod enc Try.prog W 0 (fun _ => true) true m te cs = some yy → ∃ x : α, cs = enc' x ∧ Ok x) (h : DataW.trod enc Try.prog W 0 (fun _ => true) true n ts [v] = some y) :
    ∃ (A : Option Addr) (c : Nat) (l : List α), v = .slice A l.length c ∧ RowL sz enc' W (.slice A l.length c) l ∧ (∀ f ∈ l, Ok f) ∧ l.length < 9223372036854775808 ∧ l.length ≤ c := by
  have em : maxLen = 9223372036854775807 := by decide
  rcases Deep.open_slice hu h with ⟨hcs, _⟩ | ⟨a, len, cap, m', n, D, Pl, hcs, _, hl, hm, hmm, _, hx⟩
  · simp at hcs
    exact ⟨none, 0, [], hcs, ⟨none, 0, rfl, .inl rfl⟩, fun a ha => by simp at ha, by simp, by simp⟩
  · simp at hcs hmm
    subst hcs hmm
    rcases Nat.eq_zero_or_pos len with h0 | h0
    · exact ⟨some a, m', [], by rw [h0]; rfl, ⟨some a, m', rfl, .inl rfl⟩, fun a ha => by simp at ha, by simp, by simp⟩
    obtain ⟨b, off, spot⟩ := a
    obtain ⟨cs0, hc0, _⟩ := hx 0 (by omega)
    have hspot : spot = none := by
      rw [hce] at hc0
      obtain ⟨_, hl0, hcell⟩ := World.cells?_some hc0
      have h1 := hcell 0 (by omega)
      rw [List.getElem?_eq_getElem (by omega)] at h1
      simpa [Addr.add] using World.cell?_spot h1
    subst hspot
    have hadd : ∀ i, (⟨b, off, none⟩ : Addr).add i = ⟨b, off + i, none⟩ := fun i => by unfold Addr.add; split <;> simp_all
    have each : ∀ i, i < len → ∃ x : α, (∀ j u, (enc' x)[j]? = some u → W.cell? ⟨b, off + i * sz + j, none⟩ = some u) ∧ Ok x := fun i hi => by
      obtain ⟨cs', h1, h2⟩ := hx i (by omega)
      rw [hce, hadd] at h1
      obtain ⟨_, hlen, hcell⟩ := World.cells?_some h1
      obtain ⟨x, e, hok⟩ := hread _ _ _ hlen h2
      rw [e] at hcell
      refine ⟨x, fun j u hu => ?_, hok⟩
      have hj : j < sz := by have := (List.getElem?_eq_some_iff.1 hu).1; rw [he] at this; exact this
      have hadd2 : ∀ i, (⟨b, off + i * sz, none⟩ : Addr).add j = ⟨b, off + i * sz + j, none⟩ := fun i => by unfold Addr.add; split <;> simp_all
      have hc2 := hcell j hj
      rw [hadd2] at hc2
      rw [hc2]
      exact hu
    obtain ⟨f, hf⟩ := Deep.choose_lt each
    have el : ((List.range len).map f).length = len := by simp
    have hlt : b < W.heap.size := by
      have h3 := (hf 0 h0).1 0 ((enc' (f 0))[0]'(by rw [he]; exact h1)) (List.getElem?_eq_getElem _)
      exact World.block_lt_of_cell? _ _ h3
    refine ⟨some ⟨b, off, none⟩, m', (List.range len).map f, by rw [el], ⟨some ⟨b, off, none⟩, m', rfl, .inr ⟨b, off, rfl, hlt, fun i x j u hi hu => ?_⟩⟩, fun a ha => ?_, by rw [el]; omega, by rw [el]; exact hl⟩
    · obtain ⟨h1, rfl⟩ := list_at f len i x hi
      exact (hf i h1).1 j u hu
    · obtain ⟨i, hi, rfl⟩ := List.mem_map.1 ha
      exact (hf i (List.mem_range.1 hi)).2

theorem array2 {α : Type} {cs : Array α} (h : cs.size = 2) : ∃ c0 c1, cs = #[c0, c1] := by
  obtain ⟨l⟩ := cs
  match l, h with
  | [c0, c1], _ => exact ⟨c0, c1, rfl⟩
theorem len1 {α : Type} : ∀ {l : List α}, l.length = 1 → ∃ a, l = [a]
  | [a], _ => ⟨a, rfl⟩
theorem cells_dm : Try.prog.cellsOf 40 = 2 := by kernel_rfl
theorem cells_dms : Try.prog.cellsOf 22 = 1 := by kernel_rfl
theorem cells_ints : Try.prog.cellsOf 24 = 1 := by kernel_rfl
theorem cells_curves : Try.prog.cellsOf 33 = 1 := by kernel_rfl
theorem cells_case : Try.prog.cellsOf 35 = 2 := by kernel_rfl
instance : Inhabited Cv := ⟨⟨none, 0, []⟩⟩
def OkDm (x : Dm) : Prop := x.c ≤ 9223372036854775807
set_option maxRecDepth 100000 in
theorem read_dm {H : Type} {enc : TypeId × Value → H} {W : World} {n : Nat} {c0 c1 : Value} {y : DataW H × List MemPlace} (h : DataW.trod enc Try.prog W 0 (fun _ => true) true n 40 [c0, c1] = some y) :
    ∃ x : Dm, [c0, c1] = encD x ∧ OkDm x := by
  obtain ⟨xs, k, _, _, _, hxl, hf⟩ := DataW.trod_struct Try.underlying40 h
  obtain ⟨y0, y1, rfl⟩ := len2 hxl
  all_goals
    have g0 := hf 0 _ rfl
    have g1 := hf 1 _ rfl
    simp [cells_int] at g0 g1
    obtain ⟨x0, e0, _, w0⟩ := DataW.trod_int Try.underlying3 g0
    obtain ⟨x1, e1, _, w1⟩ := DataW.trod_int Try.underlying3 g1
    simp at e0 e1
    subst e0 e1
    exact ⟨⟨x0, x1⟩, rfl, (int_bounds w1).2⟩
/-- demands, opened -/
theorem open_demands {H : Type} {enc : TypeId × Value → H} {W : World} {b0 : Nat} {v : Value} {d : DataW H} {p : List MemPlace} (hv : Value.okWide Try.prog W .any b0 22 v) (h : DataW.Trod enc Try.prog W 0 (fun _ => true) true 22 v d p) :
    ∃ (A : Option Addr) (c : Nat) (l : List Dm), v = .slice A l.length c ∧ DmL W (.slice A l.length c) l ∧ (∀ x ∈ l, x.c ≤ 9223372036854775807) ∧ l.length < 9223372036854775808 := by
  obtain ⟨a, len, cap, rfl⟩ := okWide_slice Try.underlying22 hv
  obtain ⟨fuel, hf⟩ := h
  obtain ⟨A, c, l, e, h1, h2, h3, _⟩ := read_rowC (enc' := encD) (Ok := OkDm) Try.underlying22 cells_dm (by omega) (fun _ => rfl) (fun m cs yy hl h => by
    obtain ⟨c0, c1, rfl⟩ := len2 hl
    exact read_dm h) hf
  exact ⟨A, c, l, e, h1, h2, h3⟩
/-- a demand by value, opened -/
theorem open_demand {H : Type} {enc : TypeId × Value → H} {W : World} {b0 : Nat} {v : Value} {d : DataW H} {p : List MemPlace} (hv : Value.okWide Try.prog W .any b0 40 v) (h : DataW.Trod enc Try.prog W 0 (fun _ => true) true 40 v d p) :
    ∃ x : Dm, v = .agg #[.int .i64 x.v, .int .i64 x.c] := by
  obtain ⟨cs, rfl, hsz⟩ := okWide_struct Try.underlying40 hv
  obtain ⟨c0, c1, rfl⟩ := array2 (hsz.trans cells_dm)
  obtain ⟨fuel, hf⟩ := h
  obtain ⟨x, e, _⟩ := read_dm (show DataW.trod enc Try.prog W 0 (fun _ => true) true fuel 40 [c0, c1] = some _ from hf)
  simp only [encD, List.cons.injEq, and_true] at e
  exact ⟨x, by rw [e.1, e.2]⟩
def OkI (x : Int) : Prop := -9223372036854775808 ≤ x ∧ x ≤ 9223372036854775807
theorem read_numB {H : Type} {enc : TypeId × Value → H} {W : World} {n : Nat} {c0 : Value} {y : DataW H × List MemPlace} (h : DataW.trod enc Try.prog W 0 (fun _ => true) true n 3 [c0] = some y) : ∃ x : Int, [c0] = encI x ∧ OkI x := by
  obtain ⟨x1, e1, _, w1⟩ := DataW.trod_int Try.underlying3 h
  simp at e1
  subst e1
  exact ⟨x1, rfl, int_bounds w1⟩
theorem read_nums {H : Type} {enc : TypeId × Value → H} {W : World} {fuel : Nat} {v : Value} {y : DataW H × List MemPlace} (hf : DataW.trod enc Try.prog W 0 (fun _ => true) true fuel 24 [v] = some y) :
    ∃ (A : Option Addr) (c : Nat) (l : List Int), v = .slice A l.length c ∧ IntR W (.slice A l.length c) l ∧ (∀ x ∈ l, OkI x) ∧ l.length < 9223372036854775808 ∧ l.length ≤ c :=
  read_rowC (enc' := encI) (Ok := OkI) Try.underlying24 cells_int (by omega) (fun _ => rfl) (fun m cs yy hl h => by
    obtain ⟨c0, rfl⟩ := len1 hl
    exact read_numB h) hf
/-- numbers, opened, and their room -/
theorem open_numsC {H : Type} {enc : TypeId × Value → H} {W : World} {b0 : Nat} {v : Value} {d : DataW H} {p : List MemPlace} (hv : Value.okWide Try.prog W .any b0 24 v) (h : DataW.Trod enc Try.prog W 0 (fun _ => true) true 24 v d p) :
    ∃ (A : Option Addr) (c : Nat) (l : List Int), v = .slice A l.length c ∧ IntR W (.slice A l.length c) l ∧ l.length < 9223372036854775808 ∧ l.length ≤ c := by
  obtain ⟨a, len, cap, rfl⟩ := okWide_slice Try.underlying24 hv
  obtain ⟨fuel, hf⟩ := h
  obtain ⟨A, c, l, e, h1, _, h3, h4⟩ := read_nums hf
  exact ⟨A, c, l, e, h1, h3, h4⟩
theorem read_curves {H : Type} {enc : TypeId × Value → H} {W : World} {fuel : Nat} {v : Value} {y : DataW H × List MemPlace} (hf : DataW.trod enc Try.prog W 0 (fun _ => true) true fuel 33 [v] = some y) :
    ∃ (A : Option Addr) (c : Nat) (L : List Cv), v = .slice A L.length c ∧ CvsL W (.slice A L.length c) L ∧ (∀ x ∈ L, x.l.length < 9223372036854775808) ∧ L.length < 9223372036854775808 := by
  obtain ⟨A, c, L, e, h1, h2, h3, _⟩ := read_rowC (enc' := encV) (Ok := fun x : Cv => IntR W (.slice x.A x.l.length x.c) x.l ∧ x.l.length < 9223372036854775808) Try.underlying33 cells_ints (by omega) (fun _ => rfl) (fun m cs yy hl h => by
    obtain ⟨c0, rfl⟩ := len1 hl
    obtain ⟨A, c, l, rfl, h1, _, h3, _⟩ := read_nums h
    exact ⟨⟨A, c, l⟩, rfl, h1, h3⟩) hf
  exact ⟨A, c, L, e, ⟨h1, fun x hx => (h2 x hx).1⟩, fun x hx => (h2 x hx).2, h3⟩
set_option maxRecDepth 100000 in
/-- a case by value, opened -/
theorem open_case14 {H : Type} {enc : TypeId × Value → H} {W : World} {b0 : Nat} {v : Value} {d : DataW H} {p : List MemPlace} (hv : Value.okWide Try.prog W .any b0 35 v) (h : DataW.Trod enc Try.prog W 0 (fun _ => true) true 35 v d p) :
    ∃ (A : Option Addr) (c : Nat) (L : List Cv) (B : Option Addr) (e : Nat) (lf : List Int), v = .agg #[.slice A L.length c, .slice B lf.length e] ∧ CvsL W (.slice A L.length c) L ∧ IntR W (.slice B lf.length e) lf ∧ (∀ x ∈ lf, -9223372036854775808 ≤ x ∧ x ≤ 9223372036854775807) ∧
      L.length < 9223372036854775808 ∧ (∀ x ∈ L, x.l.length < 9223372036854775808) ∧ lf.length < 9223372036854775808 := by
  obtain ⟨cs, rfl, hsz⟩ := okWide_struct Try.underlying35 hv
  obtain ⟨c0, c1, rfl⟩ := array2 (hsz.trans cells_case)
  obtain ⟨fuel, hf⟩ := h
  obtain ⟨xs, k, _, _, _, hxl, hf⟩ := DataW.trod_struct Try.underlying35 hf
  obtain ⟨y0, y1, rfl⟩ := len2 hxl
  all_goals
    have g0 := hf 0 _ rfl
    have g1 := hf 1 _ rfl
    simp [Value.cells, cells_ints, cells_curves] at g0 g1
    obtain ⟨A, c, L, e0, hL, hx, hl⟩ := read_curves g0
    obtain ⟨B, e, lf, e1, hM, hi, hll, _⟩ := read_nums g1
    subst e0 e1
    exact ⟨A, c, L, B, e, lf, rfl, hL, hM, hi, hl, hx, hll⟩
theorem bk_pos {H : Type} (d : DataW H) : 1 ≤ Rows.uptoBulk d := by
  cases d with
  | lit l => cases l <;> simp [Rows.uptoBulk]
  | _ => simp [Rows.uptoBulk]
theorem bk_len {H : Type} : ∀ l : List (DataW H), l.length ≤ Rows.uptoBulkAll l
  | [] => Nat.zero_le _
  | d :: r => by
    have h1 := bk_pos d
    have h2 := bk_len r
    simp only [Rows.uptoBulkAll, List.length_cons]
    omega
theorem bk_mem {H : Type} {d : DataW H} {n : Nat} : ∀ {l : List (DataW H)}, d ∈ l → Rows.uptoBulkAll l ≤ n → Rows.uptoBulk d ≤ n
  | e :: r, h, hn => by
    simp only [Rows.uptoBulkAll] at hn
    rcases List.mem_cons.1 h with rfl | h
    · omega
    · exact bk_mem h (by omega)
/-- a slice is no longer than what it holds is great -/
theorem slice_bulk {H : Type} {enc : TypeId × Value → H} {W : World} {t e : TypeId} {fuel n c : Nat} {A : Option Addr} {x : DataW H × List MemPlace} (ht : Try.prog.underlying t = some (.slice e)) (h : DataW.trod enc Try.prog W 0 (fun _ => true) true fuel t [.slice A n c] = some x) : n ≤ Rows.uptoBulk x.1 := by
  rcases Deep.open_slice ht h with ⟨hcs, _⟩ | ⟨a, len, cap, m', k, D, Pl, hcs, _, hl, hm, hmm, hx, _⟩
  · simp only [List.cons.injEq, Value.slice.injEq] at hcs
    omega
  · simp only [List.cons.injEq, Value.slice.injEq] at hcs
    have h1 := bk_len ((List.range len).map D)
    rw [List.length_map, List.length_range] at h1
    obtain ⟨⟨_, h2, _⟩, _⟩ := hcs
    rw [hx]
    show n ≤ Rows.uptoBulk (.slice ((List.range len).map D) _)
    simp only [Rows.uptoBulk]
    omega
set_option maxRecDepth 100000 in
theorem case_bulk {H : Type} {enc : TypeId × Value → H} {W : World} {b0 : Nat} {A B : Option Addr} {n c m e : Nat} {d : DataW H} {p : List MemPlace} (hv : Value.okWide Try.prog W .any b0 35 (.agg #[.slice A n c, .slice B m e])) (h : DataW.Trod enc Try.prog W 0 (fun _ => true) true 35 (.agg #[.slice A n c, .slice B m e]) d p) :
    m ≤ Rows.uptoBulk d := by
  obtain ⟨v0, v1, y0, y1, k, e2, rfl, _, hy0, hy1⟩ := Joins.open_agg2 Try.underlying35 (by kernel_rfl) cells_case hv h
  simp only [Value.agg.injEq, Array.mk.injEq, List.cons.injEq, and_true] at e2
  obtain ⟨e0, e1⟩ := e2
  subst e0 e1
  have h1 := slice_bulk Try.underlying24 hy1
  have b : Rows.uptoBulkAll [y0.1, y1.1] ≤ Rows.uptoBulk (.agg [y0.1, y1.1]) := by simp only [Rows.uptoBulk]; omega
  exact Nat.le_trans h1 (bk_mem (by simp) b)
end Go.Proofs.Ytjogjlfgfohihaa
