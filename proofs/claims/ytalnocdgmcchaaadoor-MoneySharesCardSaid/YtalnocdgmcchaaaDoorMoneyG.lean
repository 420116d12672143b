/- Rows of numbers that a call makes; greatestFirst walked. -/
import Derived.Test.YtalnocdgmcchaaaDoorMoneyF
import Derived.Test.YtalnocdgmcchaaaDoorSortF
import Derived.Sort.OwnSorted
import Derived.Deep.OwnRows
namespace Go.Proofs.YtalnocdgmcchaaaDoor
open Go.RowKit Go.Sort
set_option linter.unusedSimpArgs false
set_option linter.unusedVariables false

/-- the block b holds the numbers l, and they may be written -/
structure Row (W : World) (b : Nat) (l : List Int) : Prop where
  cell : ∀ j (h : j < l.length), W.cell? ⟨b, j, none⟩ = some (.int .i64 l[j])
  froz : ∀ j, j < l.length → W.frozen? ⟨b, j, none⟩ = false
  lt : b < W.heap.size
theorem Row.set {W : World} {b : Nat} {l : List Int} (h : Row W b l) (k : Nat) (hk : k < l.length) (x : Int) : Row (W.setCell ⟨b, k, none⟩ (.int .i64 x)) b (l.set k x) := by
  refine ⟨fun j hj => ?_, fun j hj => ?_, by have := h.lt; simpa using this⟩
  · have hj' : j < l.length := by rw [List.length_set] at hj; exact hj
    by_cases e : j = k
    · subst e
      rw [World.cell?_setCell_same _ _ _ (h.cell j hj')]
      simp
    · rw [World.cell?_setCell_other _ _ _ _ (by intro e'; simp only [Addr.mk.injEq] at e'; omega), h.cell j hj']
      rw [List.getElem_set_ne (by omega)]
  · rw [List.length_set] at hj
    rw [World.frozen?_setCell]; exact h.froz j hj
theorem Row.other {W : World} {b c : Nat} {l : List Int} (h : Row W b l) (hne : c ≠ b) (k : Nat) (v : Value) : Row (W.setCell ⟨c, k, none⟩ v) b l := by
  refine ⟨fun j hj => ?_, fun j hj => by rw [World.frozen?_setCell]; exact h.froz j hj, by have := h.lt; simpa using this⟩
  rw [World.cell?_setCell_other _ _ _ _ (by intro e'; simp only [Addr.mk.injEq] at e'; omega), h.cell j hj]
theorem Row.drewN {W : World} {b : Nat} {l : List Int} (h : Row W b l) (n : Nat) : Row (W.drewN n) b l := ⟨h.cell, h.froz, h.lt⟩
theorem Row.drew {W : World} {b : Nat} {l : List Int} (h : Row W b l) : Row W.drew b l := ⟨h.cell, h.froz, h.lt⟩
theorem Row.more {W W' : World} {b : Nat} {l : List Int} (h : Row W b l) (hb : Below W.heap.size W W') : Row W' b l :=
  ⟨fun j hj => (hb.cell (p := ⟨b, j, none⟩) h.lt).trans (h.cell j hj), fun j hj => (hb.frozen (p := ⟨b, j, none⟩) h.lt).trans (h.froz j hj), Nat.lt_of_lt_of_le h.lt hb.size⟩
theorem Row.alloc {W : World} {b : Nat} {l : List Int} (h : Row W b l) (o : Obj) : Row (W.alloc o) b l := h.more ((Below.refl _ _).alloc (Nat.le_refl _) _)
theorem Row.intL {W : World} {b c : Nat} {l : List Int} (h : Row W b l) : IntL W (.slice (some ⟨b, 0, none⟩) l.length c) l :=
  ⟨_, _, rfl, .inr ⟨b, 0, rfl, h.lt, fun i hi => by rw [Nat.zero_add]; exact h.cell i hi⟩⟩

theorem sortWorld_cell {α : Type} [Inhabited α] (enc : α → Value) (W : World) (g off m : Nat) (dk : Array α) (os : Array Obj) (b j : Nat) (hne : b ≠ g) (hlt : b < W.heap.size) :
    (sortWorld enc W g off m dk os).cell? ⟨b, j, none⟩ = W.cell? ⟨b, j, none⟩ := by
  unfold sortWorld
  rw [cell?_grow _ _ _ (by simpa using hlt), cell?_putRow_other _ _ _ _ _ _ (Or.inl hne)]
  rfl

/-! ### the order of the remainders -/
def encF {n : Nat} (x : Fin n) : Value := .int .i64 (x.val : Int)
def cfF (rem : List Int) {n : Nat} (x y : Fin n) : Int := Lib.compareInt (rem.getD y.val 0) (rem.getD x.val 0)
def totF (rem : List Int) {n : Nat} (x y : Fin n) : Bool := decide (rem.getD y.val 0 < rem.getD x.val 0 ∨ (rem.getD x.val 0 = rem.getD y.val 0 ∧ x.val < y.val))
theorem cmp_lt (x y : Int) : decide (Lib.compareInt x y < 0) = decide (x < y) := by
  unfold Lib.compareInt
  by_cases h1 : x < y
  · simp [h1]
  · by_cases h2 : y < x <;> simp [h1, h2]
theorem ordF (rem : List Int) (n : Nat) : Ordd (α := Fin n) (ltOf (cfF rem)) (totF rem) (fun x y => x.val < y.val) where
  swo := {
    irrefl := fun x => by simp [totF]
    trans := fun x y z h1 h2 => by simp only [totF, decide_eq_true_eq] at *; omega
    ntrans := fun x y z h1 h2 => by simp only [totF, decide_eq_false_iff_not] at *; omega }
  key := fun x y h => by
    show decide (Lib.compareInt _ _ < 0) = _
    rw [cmp_lt, totF]
    congr 1
    simp only [eq_iff_iff]
    omega

set_option maxHeartbeats 1000000 in
theorem gclosure_any (v : Value) (rem : List Int) (c x y : Nat) (W : World) (hc : W.cell? ⟨c, 0, none⟩ = some v) (hv : IntL W v rem) (hx : x < rem.length) (hy : y < rem.length) :
    Calls Tryd.prog 48 #[.int .i64 x, .int .i64 y, .pointer (some ⟨c, 0, none⟩)] W fun e w' => e = .returned (.int .i64 (Lib.compareInt (rem.getD y 0) (rem.getD x 0))) ∧ ∃ q, w' = W.drewN q := by
  obtain ⟨A, cp, rfl, hcc⟩ := hv
  obtain ⟨b, o, rfl, hb, hcl⟩ : ∃ b o, A = some ⟨b, o, none⟩ ∧ b < W.heap.size ∧ ∀ i (h : i < rem.length), W.cell? ⟨b, o + i, none⟩ = some (.int .i64 rem[i]) := by
    rcases hcc with h | h
    · rw [h] at hx; simp at hx
    · exact h
  have g1 := hcl x hx
  have g2 := hcl y hy
  rw [List.getD_eq_getElem?_getD, List.getElem?_eq_getElem hy, List.getD_eq_getElem?_getD, List.getElem?_eq_getElem hx]
  simp only [Option.getD_some]
  have i1 : (x : Int) < (rem.length : Int) := by omega
  have i2 : (y : Int) < (rem.length : Int) := by omega
  clear hcc hcl
  generalize rem[x] = p at *
  generalize rem[y] = q at *
  obtain ⟨r, hr⟩ : ∃ r, r = Lib.compareInt q p := ⟨_, rfl⟩
  have CC := Lib.hid (fun w => Tryd.cmp_Compare_int q p w)
  rw [← hr] at CC
  rw [← hr]
  clear hr
  go_enter Tryd.func48, Tryd.ntmps48
  go_wp2_with fail
  go_quiet ((go_at_call 49; exact Calls.quiet_of_same (CC.out _)))
  go_wp2
  go_ret
  exact ⟨rfl, _, rfl⟩

theorem Row.made (w : World) (n : Nat) (e : TypeId) : Row (w.alloc (.cells (madeCells #[.int .i64 0] n) e)) w.heap.size (List.replicate n 0) := by
  have hb : (w.alloc (.cells (madeCells #[.int .i64 0] n) e)).heap[w.heap.size]? = some (.cells (madeCells #[.int .i64 0] n) e (0, 0)) := heap_alloc_new w _
  refine ⟨fun j hj => ?_, fun j hj => ?_, by simp⟩
  · rw [List.length_replicate] at hj
    rw [cell_of_row _ w.heap.size j _ e (0, 0) hb, ← Array.getElem?_toList, toList_madeCells_one, List.getElem?_replicate, if_pos hj, List.getElem_replicate]
  · unfold World.frozen?
    simp only [hb]
    simp
theorem intT : (Tryd.prog.info? 3).map (fun i => (i.zero, i.size, i.bytes)) = some (some (.int .i64 0), 1, 8) := by kernel_rfl

/-- so far filled with their own places -/
def upto (n k : Nat) : List Int := (List.range n).map (fun j => if j < k then (j : Int) else 0)
theorem upto_zero (n : Nat) : upto n 0 = List.replicate n 0 := by
  apply List.ext_getElem
  · simp [upto]
  · intro i h1 h2; simp [upto]
theorem upto_step (n k : Nat) (h : k < n) : (upto n k).set k (k : Int) = upto n (k + 1) := by
  apply List.ext_getElem
  · simp [upto]
  · intro i h1 h2
    simp only [upto, List.length_set, List.length_map, List.length_range] at h1
    rw [List.getElem_set]
    simp only [upto, List.getElem_map, List.getElem_range]
    by_cases e : k = i
    · subst e; simp
    · rw [if_neg e]
      by_cases e2 : i < k
      · rw [if_pos e2, if_pos (by omega)]
      · rw [if_neg e2, if_neg (by omega)]
theorem upto_len (n k : Nat) : (upto n k).length = n := by simp [upto]

/-- the places in the order of what they hold, the greatest first, of equals the first -/
structure Ordered (rem : List Int) (ord : List Nat) : Prop where
  len : ord.length = rem.length
  perm : ord.Perm (List.range rem.length)
  sorted : ∀ i j (hi : i < j) (hj : j < ord.length), rem.getD (ord[j]) 0 < rem.getD (ord[i]'(by omega)) 0 ∨ (rem.getD (ord[j]) 0 = rem.getD (ord[i]'(by omega)) 0 ∧ ord[i]'(by omega) ≤ ord[j])

theorem ext_all {β : Type} (d : Array β) (n : Nat) (h : d.size ≤ n) : d.extract 0 n = d := by
  apply Array.ext
  · simp; omega
  · intro i h1 h2; simp
def idF (n : Nat) : Array (Fin n) := Array.ofFn id
theorem idF_size (n : Nat) : (idF n).size = n := by simp [idF]
theorem idF_get (n : Nat) [Inhabited (Fin n)] (j : Nat) (h : j < n) : (idF n)[j]! = ⟨j, h⟩ := by
  rw [getElem!_pos _ j (by rw [idF_size]; exact h)]
  simp [idF]
theorem ordered_of (rem : List Int) [Inhabited (Fin rem.length)] (d : Array (Fin rem.length)) (hp : PermIn 0 rem.length (idF rem.length) d) (hs : SortedIn (totF rem) 0 rem.length d) :
    Ordered rem (d.toList.map (·.val)) := by
  have hsz : d.size = rem.length := by rw [hp.1, idF_size]
  refine ⟨by simp [hsz], ?_, fun i j hi hj => ?_⟩
  · have h := hp.2.2
    rw [ext_all d _ (by omega), ext_all (idF rem.length) _ (by rw [idF_size]; omega)] at h
    have h2 := h.map (fun x : Fin rem.length => x.val)
    have e : (idF rem.length).toList.map (fun x : Fin rem.length => x.val) = List.range rem.length := by
      apply List.ext_getElem
      · simp [idF]
      · intro i h1 h2; simp [idF]
    rw [e] at h2
    exact h2
  · simp only [List.length_map, Array.length_toList] at hj
    have h := hs i j (Nat.zero_le _) hi (by omega)
    rw [getElem!_pos d i (by omega), getElem!_pos d j (by omega)] at h
    simp only [List.getElem_map, Array.getElem_toList]
    simp only [totF, decide_eq_false_iff_not] at h
    omega

theorem below_sw {α : Type} [Inhabited α] {enc : α → Value} {w W W' : World} {g off : Nat} {d : Array α} (hb : Below w.heap.size w W) (S : SW enc W g off d W') (hg : w.heap.size ≤ g) : Below w.heap.size w W' := by
  obtain ⟨n, os, rfl⟩ := S
  have hs := hb.size
  refine ⟨hb.os, hb.tape, hb.output, ?_, fun k hk => ?_⟩
  · unfold sortWorld; simp; omega
  · unfold sortWorld
    rw [heap_grow_old _ _ (by simp; omega)]
    have : g ≠ k := by omega
    rw [show (putRow enc (Sort.ahead W n) g off d).heap[k]? = W.heap[k]? by simp [putRow, mapBlock, Sort.ahead, Array.getElem?_modify, this]]
    exact hb.block k hk

def SortedRow (rem : List Int) (w : World) (g : Nat) (e : Ending) (w' : World) : Prop :=
  e = .returned (.tuple #[]) ∧ (∃ ord : List Nat, Row w' g (ord.map (fun j : Nat => (j : Int))) ∧ Ordered rem ord) ∧ Below w.heap.size w w'
def OrdOut (rem : List Int) (w : World) (e : Ending) (w' : World) : Prop :=
  ∃ g ord, e = .returned (.slice (some ⟨g, 0, none⟩) rem.length rem.length) ∧ Row w' g (ord.map (fun j : Nat => (j : Int))) ∧ Ordered rem ord ∧ w.heap.size ≤ g ∧ Below w.heap.size w w'

set_option maxRecDepth 100000 in
set_option maxHeartbeats 4000000 in
theorem greatestFirst_any (v : Value) (rem : List Int) (w : World) (hp : 0 < rem.length) (h160 : rem.length ≤ 160) (hv : IntL w v rem) :
    Calls Tryd.prog 36 #[v] w (OrdOut rem w) := by
  haveI : Inhabited (Fin rem.length) := ⟨⟨0, hp⟩⟩
  have HV := Lib.hid hv
  obtain ⟨A, cp, rfl, hcc⟩ := hv
  obtain ⟨i0, hi, hz0, hz1, hz2⟩ := info_parts intT
  have HI := Lib.hid hi
  have HZ0 := Lib.hid hz0
  have HZ1 := Lib.hid hz1
  have HZ2 := Lib.hid hz2
  clear hi hz0 hz1 hz2 hcc
  -- the sort, wherever the row lies
  have SRT := Lib.hid (fun (g : Nat) (W : World) (hR : Row W g (upto rem.length rem.length)) (hc : W.cell? ⟨w.heap.size, 0, none⟩ = some (.slice A rem.length cp)) (hcl : w.heap.size < W.heap.size) (hgw : w.heap.size < g) (hb : Below w.heap.size w W) => by
    have hH : Holds (encF (n := rem.length)) W g 0 (idF rem.length) := fun j hj => by
      rw [idF_size] at hj
      rw [idF_get _ _ hj, Nat.zero_add]
      have h1 := hR.cell j (by rw [upto_len]; exact hj)
      have h2 := hR.froz j (by rw [upto_len]; exact hj)
      rw [h1]
      refine ⟨?_, h2⟩
      simp [upto, encF, hj]
    have R : Row1 (encF (n := rem.length)) W g 0 (idF rem.length) := ⟨fun x => rfl, hH, hR.lt⟩
    have hcmp : CmpLays1 Tryd.prog 48 #[.pointer (some ⟨w.heap.size, 0, none⟩)] (encF (n := rem.length)) (cfF rem) g 0 (idF rem.length).size W := CmpReads.lays (fun m os dk _ x y => by
      have hIL : IntL (sortWorld (encF (n := rem.length)) W g 0 m dk os) (.slice A rem.length cp) rem := HV.out.more (below_sw hb ⟨m, os, rfl⟩ (by omega))
      exact gclosure_any (.slice A rem.length cp) rem w.heap.size x.val y.val _ (by rw [sortWorld_cell _ _ _ _ _ _ _ _ _ (by omega) hcl]; exact hc) hIL x.isLt y.isLt)
    have C := sortStable_s (encF (n := rem.length)) (cfF rem) (totF rem) (fun x y => x.val < y.val) (ordF rem rem.length) 48 #[.pointer (some ⟨w.heap.size, 0, none⟩)] g 0 rem.length (idF rem.length) W (enters_of Tryd.func48 (by kernel_rfl) rfl) hcmp R (by rw [idF_size]; exact h160)
      (fun i j hij hj => by rw [idF_size] at hj; rw [idF_get _ _ hj, idF_get _ _ (show i < rem.length by omega)]; exact hij)
    rw [idF_size] at C
    have C2 : Calls Tryd.prog _ _ _ (SortedRow rem w g) := C.mono (fun e w' ⟨he, d', hd, hS⟩ => by
      refine ⟨he, ⟨d'.toList.map (·.val), ?_, ordered_of rem d' hd.1 hd.2⟩, below_sw hb hS (by omega)⟩
      have hs := hd.1.1
      rw [idF_size] at hs
      have hH2 := hS.holds R.hblk R.hH (by rw [hs, idF_size])
      refine ⟨fun j hj => ?_, fun j hj => ?_, hS.lt R.hblk⟩
      · simp only [List.length_map, Array.length_toList] at hj
        have := (hH2 j hj).1
        rw [Nat.zero_add] at this
        rw [this, getElem!_pos d' j hj]
        simp [encF]
      · simp only [List.length_map, Array.length_toList] at hj
        have := (hH2 j hj).2
        rw [Nat.zero_add] at this
        exact this)
    exact C2)
  obtain ⟨n, hn⟩ : ∃ n, n = rem.length := ⟨_, rfl⟩
  have HN := Lib.hid hn
  go_enter Tryd.func36, Tryd.ntmps36
  go_wp2_with (at_make; go_loud (refine wpList_make_row _ rfl _ _ 22 rfl 3 i0 (.int .i64 0) Tryd.underlying22 HI.out HZ0.out HZ1.out rfl _ _ rem.length rfl rfl (by rw [HZ2.out]; omega) (by omega) ?_))
  -- the fresh row
  have hr0 : Row ((w.alloc (.cells #[.slice A rem.length cp] 22)).alloc (.cells (madeCells #[.int .i64 0] rem.length) 3)) (w.heap.size + 1) (upto rem.length 0) := by
    have h := Row.made (w.alloc (.cells #[.slice A rem.length cp] 22)) rem.length 3
    rw [upto_zero]
    simpa using h
  have hc0 : ((w.alloc (.cells #[.slice A rem.length cp] 22)).alloc (.cells (madeCells #[.int .i64 0] rem.length) 3)).cell? ⟨w.heap.size, 0, none⟩ = some (.slice A rem.length cp) := by simp
  have hb0 : Below w.heap.size w ((w.alloc (.cells #[.slice A rem.length cp] 22)).alloc (.cells (madeCells #[.int .i64 0] rem.length) 3)) := ((Below.refl _ _).alloc (Nat.le_refl _) _).alloc (by simp) _
  have R0 := Lib.hid hr0
  have C0 := Lib.hid hc0
  have B0 := Lib.hid hb0
  clear hr0 hc0 hb0
  generalize (w.alloc (.cells #[.slice A rem.length cp] 22)).alloc (.cells (madeCells #[.int .i64 0] rem.length) 3) = W1 at R0 C0 B0 ⊢
  obtain ⟨g, hg⟩ : ∃ g, g = w.heap.size + 1 := ⟨_, rfl⟩
  obtain ⟨c, hc⟩ : ∃ c, c = w.heap.size := ⟨_, rfl⟩
  have HG : Hid (g = w.heap.size + 1) := Lib.hid hg
  have HCc : Hid (c = w.heap.size) := Lib.hid hc
  rw [← hg] at R0 ⊢
  rw [← hc] at C0 ⊢
  rw [← hc] at SRT
  clear hg hc
  clear hn HN
  go_loopg [4, 10] rem.length (fun gh vi vk wr => ∃ k : Nat, k ≤ rem.length ∧ rem.length - k ≤ gh ∧ vk = .int .i64 k ∧ Hid (Row wr g (upto rem.length k)) ∧ Hid (wr.cell? ⟨c, 0, none⟩ = some (.slice A rem.length cp)) ∧ Hid (RowKit.Below w.heap.size w wr))
  case atStart => exact ⟨0, Nat.zero_le _, by omega, rfl, R0, C0, B0⟩
  case round =>
    clear R0 C0 B0
    obtain ⟨k, hk, hgk, rfl, HR, HC, HB⟩ := hrel
    by_cases hlt : k < rem.length
    · have i1 : (k : Int) < (rem.length : Int) := by omega
      have c1 := HR.out.cell k (by rw [upto_len]; exact hlt)
      have f1 := HR.out.froz k (by rw [upto_len]; exact hlt)
      generalize (upto rem.length k)[k]'(by rw [upto_len]; exact hlt) = x0 at c1
      have HR2 : Hid (Row (wr.setCell ⟨g, k, none⟩ (.int .i64 k)) g (upto rem.length (k + 1))) := Lib.hid (by
        rw [← upto_step _ _ hlt]; exact HR.out.set k (by rw [upto_len]; exact hlt) _)
      have HC2 : Hid ((wr.setCell ⟨g, k, none⟩ (.int .i64 k)).cell? ⟨c, 0, none⟩ = some (.slice A rem.length cp)) := Lib.hid (by
        have := HG.out
        have := HCc.out
        rw [World.cell?_setCell_other _ _ _ _ (by intro e; simp only [Addr.mk.injEq] at e; omega)]
        exact HC.out)
      have HB2 : Hid (RowKit.Below w.heap.size w (wr.setCell ⟨g, k, none⟩ (.int .i64 k))) := Lib.hid (HB.out.setCell (by have := HG.out; simp; omega) _)
      clear HR HC HB
      go_wp2
      go_roundg (rem.length - (k + 1))
      case measure => omega
      case rel => exact ⟨k + 1, by omega, Nat.le_refl _, by go_num, HR2, HC2, HB2⟩
    · obtain rfl : k = rem.length := by omega
      have CS := Lib.hid (SRT.out g wr HR.out HC.out (by have h1 := HR.out.lt; have h2 := HG.out; have h3 := HCc.out; omega) (by have h2 := HG.out; have h3 := HCc.out; omega) (by rw [HCc.out]; exact HB.out))
      clear SRT
      go_wp2_with fail
      refine CS.out.mono ?_
      rintro e w' ⟨rfl, ⟨ord, hro, hor⟩, hbw⟩
      have HRO := Lib.hid hro
      have HOR := Lib.hid hor
      have HBW := Lib.hid hbw
      clear hro hor hbw
      go_wp2
      go_ret
      exact ⟨g, ord, rfl, HRO.out, HOR.out, by have h2 := HG.out; omega, HBW.out⟩
end Go.Proofs.YtalnocdgmcchaaaDoor
