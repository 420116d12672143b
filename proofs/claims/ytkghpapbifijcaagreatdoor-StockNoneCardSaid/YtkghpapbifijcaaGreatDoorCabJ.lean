/- The booking limits of a cabin. -/
import Derived.Test.YtkghpapbifijcaaGreatDoorCabI
import Derived.Deep.OwnRows
import Derived.Deep.LoopGhost
import Derived.BigQuiet
import Derived.Deep.CutRange
import Derived.Deep.CutBlock
namespace Go.Proofs.YtkghpapbifijcaaGreatDoor
open Go.RowKit Go.Shelf
set_option linter.unusedSimpArgs false
set_option linter.unusedVariables false

/-- the block b holds the numbers l, and they may be written -/
structure Row (W : World) (b : Nat) (l : List Int) : Prop where
  cell : ∀ j (h : j < l.length), W.cell? ⟨b, j, none⟩ = some (.int .i64 l[j])
  froz : ∀ j, j < l.length → W.frozen? ⟨b, j, none⟩ = false
  lt : b < W.heap.size
theorem Row.set {W : World} {b : Nat} {l : List Int} (h : Row W b l) (k : Nat) (hk : k < l.length) (x : Int) : Row (W.setCell ⟨b, k, none⟩ (.int .i64 x)) b (l.set k x) := by
  refine ⟨fun j hj => ?_, fun j hj => ?_, by have := h.lt; simpa using this⟩
  · have hj' : j < l.length := by rw [List.length_set] at hj; exact hj
    by_cases e : j = k
    · subst e
      rw [World.cell?_setCell_same _ _ _ (h.cell j hj')]
      simp
    · rw [World.cell?_setCell_other _ _ _ _ (by intro e'; simp only [Addr.mk.injEq] at e'; omega), h.cell j hj']
      rw [List.getElem_set_ne (by omega)]
  · rw [List.length_set] at hj
    rw [World.frozen?_setCell]; exact h.froz j hj
theorem Row.other {W : World} {b c : Nat} {l : List Int} (h : Row W b l) (hne : c ≠ b) (k : Nat) (v : Value) : Row (W.setCell ⟨c, k, none⟩ v) b l := by
  refine ⟨fun j hj => ?_, fun j hj => by rw [World.frozen?_setCell]; exact h.froz j hj, by have := h.lt; simpa using this⟩
  rw [World.cell?_setCell_other _ _ _ _ (by intro e'; simp only [Addr.mk.injEq] at e'; omega), h.cell j hj]
theorem Row.drewN {W : World} {b : Nat} {l : List Int} (h : Row W b l) (n : Nat) : Row (W.drewN n) b l := ⟨h.cell, h.froz, h.lt⟩
theorem Row.drew {W : World} {b : Nat} {l : List Int} (h : Row W b l) : Row W.drew b l := ⟨h.cell, h.froz, h.lt⟩
theorem Row.more {W W' : World} {b : Nat} {l : List Int} (h : Row W b l) (hb : Below W.heap.size W W') : Row W' b l :=
  ⟨fun j hj => (hb.cell (p := ⟨b, j, none⟩) h.lt).trans (h.cell j hj), fun j hj => (hb.frozen (p := ⟨b, j, none⟩) h.lt).trans (h.froz j hj), Nat.lt_of_lt_of_le h.lt hb.size⟩
theorem Row.alloc {W : World} {b : Nat} {l : List Int} (h : Row W b l) (o : Obj) : Row (W.alloc o) b l := h.more ((Below.refl _ _).alloc (Nat.le_refl _) _)
theorem Row.made (w : World) (n : Nat) (e : TypeId) : Row (w.alloc (.cells (madeCells #[.int .i64 0] n) e)) w.heap.size (List.replicate n 0) := by
  have hb : (w.alloc (.cells (madeCells #[.int .i64 0] n) e)).heap[w.heap.size]? = some (.cells (madeCells #[.int .i64 0] n) e (0, 0)) := heap_alloc_new w _
  refine ⟨fun j hj => ?_, fun j hj => ?_, by simp⟩
  · rw [List.length_replicate] at hj
    rw [cell_of_row _ w.heap.size j _ e (0, 0) hb, ← Array.getElem?_toList, toList_madeCells_one, List.getElem?_replicate, if_pos hj, List.getElem_replicate]
  · unfold World.frozen?
    simp only [hb]
    simp
theorem intT : (Tryz.prog.info? 3).map (fun i => (i.zero, i.size, i.bytes)) = some (some (.int .i64 0), 1, 8) := by kernel_rfl


def encI (n : Int) : List Value := [.int .i64 n]
theorem rowI : RT Tryz.prog 98 3 1 encI where
  ht := Tryz.underlying98
  info := ⟨.int .i64 0, 8, by kernel_rfl, rfl, by omega⟩
  len x := rfl
  one x u hu := by simp [encI] at hu; subst hu; rfl
  pos := by omega
abbrev IntR (w : World) (v : Value) (l : List Int) : Prop := RowL 1 encI w v l
theorem Row.intR {W : World} {b c : Nat} {l : List Int} (h : Row W b l) : IntR W (.slice (some ⟨b, 0, none⟩) l.length c) l :=
  ⟨_, _, rfl, .inr ⟨b, 0, rfl, h.lt, fun i x j u hi hu => by
    obtain ⟨hi', rfl⟩ := List.getElem?_eq_some_iff.1 hi
    cases j with
    | zero => simp [encI] at hu; subst hu; rw [Nat.zero_add, Nat.mul_one, Nat.add_zero]; exact h.cell i hi'
    | succ j => simp [encI] at hu⟩⟩
def tab (f : Nat → Int) (n : Nat) : List Int := (List.range n).map f
theorem tab_len (f : Nat → Int) (n : Nat) : (tab f n).length = n := by simp [tab]
theorem tab_get (f : Nat → Int) (n k : Nat) (h : k < n) : (tab f n)[k]? = some (f k) := by simp [tab, h]
theorem tab_snoc (f : Nat → Int) (k : Nat) : tab f (k + 1) = tab f k ++ [f k] := by simp [tab, List.range_succ]
theorem tab_zero (n : Nat) (f : Nat → Int) : tab (fun j => if j < 0 then f j else 0) n = List.replicate n 0 := by
  apply List.ext_getElem
  · simp [tab]
  · intro i h1 h2; simp [tab]
theorem tab_full (n : Nat) (f : Nat → Int) : tab (fun j => if j < n then f j else 0) n = tab f n := by
  apply List.ext_getElem
  · simp [tab]
  · intro i h1 h2
    have h1' : i < n := by simpa [tab] using h1
    simp [tab, h1']
theorem tab_put (n k : Nat) (f : Nat → Int) (h : k < n) : (tab (fun j => if j < k then f j else 0) n).set k (f k) = tab (fun j => if j < k + 1 then f j else 0) n := by
  apply List.ext_getElem
  · simp [tab]
  · intro i h1 h2
    have h1' : i < n := by simpa [tab] using h1
    rw [List.getElem_set]
    simp only [tab, List.getElem_map, List.getElem_range]
    by_cases e : k = i
    · subst e; simp
    · rw [if_neg e]
      by_cases h3 : i < k
      · rw [if_pos h3, if_pos (by omega)]
      · rw [if_neg h3, if_neg (by omega)]
/-- the limit of the class k -/
def limA (b : Cb) : Nat → Int
  | 0 => b.seats + b.over
  | k + 1 => match b.l[k]? with
    | some x => b.seats + b.over - x.prot
    | none => 0
structure LimP (b : Cb) : Prop where
  siz : sizB b = true
  len : b.l.length ≤ 30
  pro : ∀ x ∈ b.l, 0 ≤ x.prot ∧ x.prot ≤ 1998
/-- the memory while the limits are laid -/
structure LimW (w : World) (Z G : Nat) (vs : List Value) (l : List Int) (W : World) : Prop where
  box : ∀ j y, vs[j]? = some y → W.cell? ⟨Z, j, none⟩ = some y
  row : Row W G l
  bel : Below w.heap.size w W
theorem LimW.more {w : World} {Z G : Nat} {vs : List Value} {l : List Int} {W W' : World} (h : LimW w Z G vs l W) (hb : Below W.heap.size W W') : LimW w Z G vs l W' :=
  ⟨fun j y hy => bel_cell hb (h.box j y hy), h.row.more hb, h.bel.trans (hb.mono h.bel.size)⟩
theorem LimW.set {w : World} {Z G : Nat} {vs : List Value} {l : List Int} {W : World} (h : LimW w Z G vs l W) (hne : Z ≠ G) (hG : w.heap.size ≤ G) (k : Nat) (hk : k < l.length) (x : Int) : LimW w Z G vs (l.set k x) (W.setCell ⟨G, k, none⟩ (.int .i64 x)) :=
  ⟨fun j y hy => by rw [World.cell?_setCell_other _ _ _ _ (by intro e; simp only [Addr.mk.injEq] at e; omega)]; exact h.box j y hy, h.row.set k hk x, h.bel.setCell (p := ⟨G, k, none⟩) hG _⟩
set_option maxRecDepth 100000 in
set_option maxHeartbeats 8000000 in
theorem limits_any (b : Cb) (w : World) (hb : CbAt w b) (hP : LimP b) : Calls Tryz.prog 131 #[aggCb b] w fun e w' => ∃ v', e = .returned v' ∧ IntR w' v' (tab (limA b) b.l.length) ∧ Below w.heap.size w w' := by
  have hlen := hP.len
  obtain ⟨s1, s2, s3, s4⟩ := sizB_in hP.siz
  have HP := Lib.hid hP
  obtain ⟨i0, hi, hz0, hz1, hz2⟩ := info_parts intT
  have HI := Lib.hid hi
  have HZ0 := Lib.hid hz0
  have HZ1 := Lib.hid hz1
  have HZ2 := Lib.hid hz2
  obtain ⟨A, hA⟩ : ∃ A, A = b.A := ⟨_, rfl⟩
  have HB : Hid (ClL w (.slice A b.l.length b.c) b.l) := Lib.hid (by rw [hA]; exact hb)
  obtain ⟨vs, hvs⟩ : ∃ vs : List Value, vs = [.string b.name, .int .i64 b.seats, .int .i64 b.over, .slice A b.l.length b.c] := ⟨_, rfl⟩
  have KA : Hid (∀ W, Calls Tryz.prog 80 #[.agg #[.string b.name, .int .i64 b.seats, .int .i64 b.over, .slice A b.l.length b.c]] W fun e w' => e = .returned (.int .i64 (b.seats + b.over)) ∧ Below W.heap.size W w') := Lib.hid (fun W => by rw [hA]; exact auth_any b W hP.siz)
  have hbA := bel_alloc w (.cells #[.string b.name, .int .i64 b.seats, .int .i64 b.over, .slice A b.l.length b.c] cbT)
  have hbB := bel_alloc (w.alloc (.cells #[.string b.name, .int .i64 b.seats, .int .i64 b.over, .slice A b.l.length b.c] cbT)) (.cells (madeCells #[.int .i64 0] b.l.length) 3)
  have q0 : ∀ j y, vs[j]? = some y → ((w.alloc (.cells #[.string b.name, .int .i64 b.seats, .int .i64 b.over, .slice A b.l.length b.c] cbT)).alloc (.cells (madeCells #[.int .i64 0] b.l.length) 3)).cell? ⟨w.heap.size, j, none⟩ = some y := fun j y hy => bel_cell hbB ((cells_new w _ cbT j).trans (by rw [← hy, hvs]; simp))
  have qr := Row.made (w.alloc (.cells #[.string b.name, .int .i64 b.seats, .int .i64 b.over, .slice A b.l.length b.c] cbT)) b.l.length 3
  rw [World.size_alloc] at qr
  obtain ⟨Z, hZ⟩ : ∃ Z, Z = w.heap.size := ⟨_, rfl⟩
  have LW : LimW w Z (Z + 1) vs (tab (fun j => if j < 0 then limA b j else 0) b.l.length) ((w.alloc (.cells #[.string b.name, .int .i64 b.seats, .int .i64 b.over, .slice A b.l.length b.c] cbT)).alloc (.cells (madeCells #[.int .i64 0] b.l.length) 3)) := ⟨by rw [hZ]; exact q0, by rw [hZ, tab_zero]; exact qr, hbA.trans (hbB.mono hbA.size)⟩
  have y3 := (cells_new w #[.string b.name, .int .i64 b.seats, .int .i64 b.over, .slice A b.l.length b.c] cbT 3).trans (show _ = some (Value.slice A b.l.length b.c) from rfl)
  clear hb hi hz0 hz1 hz2 hbA hbB q0 qr hP
  rw [show aggCb b = .agg #[.string b.name, .int .i64 b.seats, .int .i64 b.over, .slice A b.l.length b.c] by rw [hA]]
  have HVS := Lib.hid hvs
  clear hA hvs
  obtain ⟨n, hn⟩ : ∃ n, n = b.l.length := ⟨_, rfl⟩
  have HN := Lib.hid hn
  rw [← hn] at hlen LW KA HB y3 HVS ⊢
  clear hn
  go_enter Tryz.func131, Tryz.ntmps131
  go_upto_region 2 with (at_make; refine wpList_make_row _ rfl _ _ 98 rfl 3 i0 (.int .i64 0) Tryz.underlying98 HI.out HZ0.out HZ1.out rfl _ _ n rfl rfl (by rw [HZ2.out]; omega) (by omega) ?_)
  rw [← hZ]
  have HZ := Lib.hid hZ
  have HLW := Lib.hid LW
  generalize (w.alloc (.cells #[.string b.name, .int .i64 b.seats, .int .i64 b.over, .slice A n b.c] cbT)).alloc (.cells (madeCells #[.int .i64 0] n) 3) = w5 at *
  clear hZ LW y3
  have b0 := HLW.out.box 0 _ (by rw [HVS.out]; rfl)
  have b1 := HLW.out.box 1 _ (by rw [HVS.out]; rfl)
  have b2 := HLW.out.box 2 _ (by rw [HVS.out]; rfl)
  have b3 := HLW.out.box 3 _ (by rw [HVS.out]; rfl)
  go_upto_region 3 with (go_at_call 80; refine (KA.out _).mono ?_; rintro e w6 ⟨rfl, hb6⟩)
  have HLW := Lib.hid (HLW.out.more hb6)
  have b3 := bel_cell hb6 b3
  clear b0 b1 b2 hb6
  go_wp2
  clear b3
  go_loopw [4, 16] (fun s4 vi wr => ∃ k : Nat, k ≤ n ∧ vi = .int .i64 k ∧ s4 = .int .i64 (limA b k) ∧ Hid (LimW w Z (Z + 1) vs (tab (fun j => if j < k then limA b j else 0) n) wr)) (fun _ vi _ => n - (intOf vi).toNat)
  case atStart => exact ⟨0, Nat.zero_le _, rfl, rfl, HLW⟩
  case round =>
    obtain ⟨k, hk, rfl, rfl, HK⟩ := hrel
    clear HLW
    by_cases hlt : k < n
    · obtain ⟨x, hx⟩ : ∃ x, b.l[k]? = some x := ⟨_, List.getElem?_eq_getElem (by have := HN.out; omega)⟩
      obtain ⟨bb, off, e1, hgl, hc⟩ := row_get (HB.out.more HK.out.bel) hx
      cases e1
      have i2 : (k : Int) < (n : Int) := by omega
      have d0 := hc 0 _ rfl
      have d1 := hc 1 _ rfl
      rw [Nat.add_zero] at d0
      obtain ⟨p1, p2⟩ := HP.out.pro x (List.mem_of_getElem? hx)
      have HX : Hid (limA b (k + 1) = b.seats + b.over - x.prot) := Lib.hid (by simp only [limA, hx])
      have HNB : Hid (LimW w Z (Z + 1) vs (tab (fun j => if j < k + 1 then limA b j else 0) n) ((wr.alloc (.cells #[.string x.code, .int .i64 x.prot] clT)).setCell ⟨Z + 1, k, none⟩ (.int .i64 (limA b k)))) := Lib.hid (by
        have h := (HK.out.more (bel_alloc wr (.cells #[.string x.code, .int .i64 x.prot] clT))).set (by omega) (by have := HZ.out; omega) k (by rw [tab_len]; exact hlt) (limA b k)
        rw [tab_put n k _ hlt] at h
        exact h)
      have hr0 : (wr.alloc (.cells #[.string x.code, .int .i64 x.prot] clT)).cell? ⟨Z + 1, k, none⟩ = some (.int .i64 0) := by
        have h := (HK.out.row.alloc (.cells #[.string x.code, .int .i64 x.prot] clT)).cell k (by rw [tab_len]; exact hlt)
        simpa [tab] using h
      have hr1 : (wr.alloc (.cells #[.string x.code, .int .i64 x.prot] clT)).frozen? ⟨Z + 1, k, none⟩ = false := (HK.out.row.alloc (.cells #[.string x.code, .int .i64 x.prot] clT)).froz k (by rw [tab_len]; exact hlt)
      have n1 : ((wr.alloc (.cells #[.string x.code, .int .i64 x.prot] clT)).setCell ⟨Z + 1, k, none⟩ (.int .i64 (limA b k))).cell? ⟨wr.heap.size, 1, none⟩ = some (.int .i64 x.prot) := by
        rw [World.cell?_setCell_other _ _ _ _ (by intro e; simp only [Addr.mk.injEq] at e; have := HK.out.row.lt; omega)]
        exact cells_new wr _ clT 1
      obtain ⟨NB, hNB⟩ : ∃ NB, NB = wr.heap.size := ⟨_, rfl⟩
      rw [← hNB] at n1
      clear hc hgl hx
      generalize limA b k = lk at *
      go_upto_region 7 with fail
      rw [← hNB]
      clear d0 d1 hr0 hr1 hNB
      generalize (wr.alloc (.cells #[.string x.code, .int .i64 x.prot] clT)).setCell ⟨Z + 1, k, none⟩ (.int .i64 lk) = w7 at *
      have g0 : ∀ z : Wd (SW w7), z.w.cell? ⟨Z, 0, none⟩ = some (Value.string b.name) := fun z => bel_get (HNB.out.box 0 _ (by rw [HVS.out]; rfl)) _ z.ok
      have g1 : ∀ z : Wd (SW w7), z.w.cell? ⟨Z, 1, none⟩ = some (Value.int .i64 b.seats) := fun z => bel_get (HNB.out.box 1 _ (by rw [HVS.out]; rfl)) _ z.ok
      have g2 : ∀ z : Wd (SW w7), z.w.cell? ⟨Z, 2, none⟩ = some (Value.int .i64 b.over) := fun z => bel_get (HNB.out.box 2 _ (by rw [HVS.out]; rfl)) _ z.ok
      have g3 : ∀ z : Wd (SW w7), z.w.cell? ⟨Z, 3, none⟩ = some (Value.slice (some ⟨bb, off, none⟩) n b.c) := fun z => bel_get (HNB.out.box 3 _ (by rw [HVS.out]; rfl)) _ z.ok
      have g4 : ∀ z : Wd (SW w7), z.w.cell? ⟨NB, 1, none⟩ = some (Value.int .i64 x.prot) := fun z => bel_get n1 _ z.ok
      have KQ : Hid (∀ W, SW w7 W → Calls Tryz.prog 80 #[.agg #[.string b.name, .int .i64 b.seats, .int .i64 b.over, .slice (some ⟨bb, off, none⟩) n b.c]] W fun e w' => e = .returned (.int .i64 (b.seats + b.over)) ∧ SW w7 w') := Lib.hid (fun W h => (KA.out W).mono (by rintro e w' ⟨rfl, hb⟩; exact ⟨rfl, Below.trans h (Below.mono hb h.size)⟩))
      have hS0 : SW w7 w7.drew := SW.drew _
      have hw : IntKind.i64.wrap (b.seats + b.over - x.prot) = b.seats + b.over - x.prot := by rw [IntKind.wrap_i64]; omega
      have hNe : Nonempty (Wd (SW w7)) := ⟨⟨_, hS0⟩⟩
      refine quietS (S := SW w7) (by kernel_rfl) (by kernel_rfl) (hS0) ?_
      repeat (first | go_big_quiet_skip | (go_big_quiet_want; go_big_quiet_op; first | go_big_quiet_on | go_big_quiet_call (((go_at_call 80; exact quiet_S (KQ.out _ (Wd.ok _)))))))
      refine wpQuiet_nil ?_
      rintro W ⟨⟨_, hW⟩, rfl⟩
      have HY := Lib.hid (HNB.out.more hW)
      clear g0 g1 g2 g3 g4 hW n1
      go_wp2
      go_roundw
      case rel => exact ⟨k + 1, by omega, by go_num, by rw [HX.out], HY⟩
      case measure => simp [intOf]; omega
    · have HE : Hid (k = n) := Lib.hid (by omega)
      have HR : Hid (IntR wr (.slice (some ⟨Z + 1, 0, none⟩) n n) (tab (limA b) n) ∧ Below w.heap.size w wr) := Lib.hid (by
        have h := HK.out.row
        rw [HE.out, tab_full] at h
        have h2 := h.intR (c := n)
        rw [tab_len] at h2
        exact ⟨h2, HK.out.bel⟩)
      go_wp2
      go_ret
      exact ⟨_, rfl, HR.out⟩
set_option maxRecDepth 100000 in
set_option maxHeartbeats 8000000 in
theorem rlimits_any (b : Cb) (w : World) (hb : CbAt w b) (hP : LimP b) : Calls Tryz.prog 144 #[aggCb b] w fun e w' => ∃ v', e = .returned v' ∧ IntR w' v' (tab (limA b) b.l.length) ∧ Below w.heap.size w w' := by
  have hlen := hP.len
  obtain ⟨s1, s2, s3, s4⟩ := sizB_in hP.siz
  have HP := Lib.hid hP
  have HB := Lib.hid hb
  have KA := Lib.hid (fun W => rauth_any b W hP.siz)
  have hbA := bel_alloc w (.cells #[.string b.name, .int .i64 b.seats, .int .i64 b.over, .slice b.A b.l.length b.c] cbT)
  have q0 := (cells_new w #[.string b.name, .int .i64 b.seats, .int .i64 b.over, .slice b.A b.l.length b.c] cbT 0).trans (show _ = some (Value.string b.name) from rfl)
  have q1 := (cells_new w #[.string b.name, .int .i64 b.seats, .int .i64 b.over, .slice b.A b.l.length b.c] cbT 1).trans (show _ = some (Value.int .i64 b.seats) from rfl)
  have q2 := (cells_new w #[.string b.name, .int .i64 b.seats, .int .i64 b.over, .slice b.A b.l.length b.c] cbT 2).trans (show _ = some (Value.int .i64 b.over) from rfl)
  have q3 := (cells_new w #[.string b.name, .int .i64 b.seats, .int .i64 b.over, .slice b.A b.l.length b.c] cbT 3).trans (show _ = some (Value.slice b.A b.l.length b.c) from rfl)
  obtain ⟨Z, hZ⟩ : ∃ Z, Z = w.heap.size := ⟨_, rfl⟩
  rw [← hZ] at q0 q1 q2 q3
  obtain ⟨n, hn⟩ : ∃ n, n = b.l.length := ⟨_, rfl⟩
  have HN := Lib.hid hn
  rw [← hn] at hlen
  clear hb hP hn
  rw [← HN.out]
  go_enter Tryz.func144, Tryz.ntmps144
  go_upto_region 1 with fail
  rw [← hZ]
  have HB5 := Lib.hid hbA
  generalize w.alloc (.cells #[.string b.name, .int .i64 b.seats, .int .i64 b.over, .slice b.A b.l.length b.c] cbT) = w5 at *
  clear hZ hbA
  rw [← HN.out] at q3
  have Q0 := Lib.hid (fun W (h : SW w5 W) => bel_get q0 _ h)
  have Q1 := Lib.hid (fun W (h : SW w5 W) => bel_get q1 _ h)
  have Q2 := Lib.hid (fun W (h : SW w5 W) => bel_get q2 _ h)
  have Q3 := Lib.hid (fun W (h : SW w5 W) => bel_get q3 _ h)
  clear q0 q1 q2 q3
  have HI : Hid (ROwn 3 1 encI w5.heap.size w5 (.slice none 0 0) (tab (limA b) 0) ∧ SW w5 w5) := Lib.hid ⟨ROwn.nil (Nat.le_refl _), Below.refl _ _⟩
  go_wp2
  go_loopg [3, 4] n (fun kx v3 v4 wr => ∃ (v : Value) (k : Nat), v = v3 ∧ v4 = .int .i64 k ∧ k + kx = n ∧ Hid (ROwn 3 1 encI w5.heap.size wr v (tab (limA b) k) ∧ SW w5 wr))
  case atStart => exact ⟨_, 0, rfl, rfl, by omega, HI⟩
  case round =>
    obtain ⟨v, k, rfl, rfl, hkx, HH⟩ := hrel
    clear HI
    have HKX := Lib.hid hkx
    have z3 := Q3.out _ HH.out.2
    by_cases hlt : k < n
    · have hk30 : k < 30 := by omega
      have i1 : (k : Int) < (n : Int) := by omega
      have z0 := Q0.out _ HH.out.2
      have z1 := Q1.out _ HH.out.2
      have z2 := Q2.out _ HH.out.2
      have KQ : Hid (∀ W, SW w5 W → Calls Tryz.prog 102 #[.agg #[.string b.name, .int .i64 b.seats, .int .i64 b.over, .slice b.A n b.c]] W fun e w' => e = .returned (.int .i64 (b.seats + b.over)) ∧ Below W.heap.size W w') := Lib.hid (fun W h => by rw [HN.out]; exact KA.out W)
      have HLm : Hid ((tab (limA b) k).length ≤ 100000000) := Lib.hid (by rw [tab_len]; omega)
      have HNX : Hid (k + 1 + (n - (k + 1)) = n) := Lib.hid (by omega)
      clear hkx
      cases k with
      | zero =>
        have HX : Hid (tab (limA b) (0 + 1) = tab (limA b) 0 ++ [b.seats + b.over]) := Lib.hid (by rw [tab_snoc]; rfl)
        go_upto_if 16 with (go_at_call 102; refine (KQ.out _ HH.out.2).mono ?_; rintro e w6 ⟨rfl, hb6⟩)
        have hO := HH.out.1.more hb6
        have HS6 : Hid (SW w5 w6) := Lib.hid (Below.trans HH.out.2 (Below.mono hb6 HH.out.2.size))
        clear z0 z1 z2 z3 hb6
        go_wp2_with (at_builtin; refine wpList_rapp rowI rfl _ _ rfl hO rfl (bel_alloc _ _) _ (b.seats + b.over) _ rfl (cs := #[.int .i64 (b.seats + b.over)]) rfl (heap_alloc_new _ _) HLm.out ?_; intro v1 w1 hO1 hC1)
        have HY : Hid (ROwn 3 1 encI w5.heap.size w1 v1 (tab (limA b) (0 + 1)) ∧ SW w5 w1) := Lib.hid (by rw [HX.out]; exact ⟨hO1, Below.trans HS6.out (hC1.below (B := w5.heap.size) hO)⟩)
        clear hO hO1 hC1
        go_roundg (n - (0 + 1))
        case measure => have := HKX.out; omega
        case rel => exact ⟨_, 0 + 1, rfl, by go_num, HNX.out, HY⟩
      | succ q =>
        obtain ⟨x, hx⟩ : ∃ x, b.l[q]? = some x := ⟨_, List.getElem?_eq_getElem (by have := HN.out; omega)⟩
        have HXX := Lib.hid hx
        obtain ⟨p1, p2⟩ := HP.out.pro x (List.mem_of_getElem? hx)
        have HX : Hid (tab (limA b) (q + 1 + 1) = tab (limA b) (q + 1) ++ [b.seats + b.over - x.prot]) := Lib.hid (by rw [tab_snoc]; simp only [limA, hx])
        have k1 : 0 < (q : Int) + 1 := by omega
        have k2 : (0 : Int) < ((q + 1 : Nat) : Int) := by omega
        have i3 : (q : Int) < (n : Int) := by omega
        have w1 : IntKind.i64.wrap (q : Int) = (q : Int) := IntWalk.i64_in _ (by omega)
        have hw : IntKind.i64.wrap (b.seats + b.over - x.prot) = b.seats + b.over - x.prot := by rw [IntKind.wrap_i64]; omega
        clear hx
        go_upto_if 16 with (go_at_call 102; refine (KQ.out _ HH.out.2).mono ?_; rintro e w6 ⟨rfl, hb6⟩)
        have hO := HH.out.1.more hb6
        have HS6 : Hid (SW w5 w6) := Lib.hid (Below.trans HH.out.2 (Below.mono hb6 HH.out.2.size))
        obtain ⟨bb, off, e1, hgl, hc⟩ := row_get ((CbAt.more HB.out (HB5.out.trans (Below.mono HS6.out HB5.out.size)))) HXX.out
        have d1 := hc 1 _ rfl
        have z3 := bel_cell hb6 z3
        rw [e1] at z3
        clear z0 z1 z2 hb6 hc hgl e1
        go_wp2_with (at_builtin; refine wpList_rapp rowI rfl _ _ rfl hO rfl (bel_alloc _ _) _ (b.seats + b.over - x.prot) _ rfl (cs := #[.int .i64 (b.seats + b.over - x.prot)]) rfl (heap_alloc_new _ _) HLm.out ?_; intro v1 w1 hO1 hC1)
        have HY : Hid (ROwn 3 1 encI w5.heap.size w1 v1 (tab (limA b) (q + 1 + 1)) ∧ SW w5 w1) := Lib.hid (by rw [HX.out]; exact ⟨hO1, Below.trans HS6.out (hC1.below (B := w5.heap.size) hO)⟩)
        clear hO hO1 hC1
        go_roundg (n - (q + 1 + 1))
        case measure => have := HKX.out; omega
        case rel => exact ⟨_, q + 1 + 1, rfl, by go_num, HNX.out, HY⟩
    · have HE : Hid (k = n) := Lib.hid (by omega)
      have HR : Hid (IntR wr v (tab (limA b) n) ∧ Below w.heap.size w wr) := Lib.hid (by
        have h := HH.out
        rw [HE.out] at h
        exact ⟨h.1.rowL rowI.len, HB5.out.trans (Below.mono h.2 HB5.out.size)⟩)
      have i2 : ¬ (k : Int) < (n : Int) := by omega
      clear HH
      go_wp2
      go_ret
      exact ⟨_, rfl, HR.out⟩
end Go.Proofs.YtkghpapbifijcaaGreatDoor
