/- Walk of checkDistances where there is nothing to report. -/
import Derived.Test.YtfdbfmhgpegchaaDoorPlaL
import Derived.DeepKeys4
namespace Go.Proofs.YtfdbfmhgpegchaaDoor
open Go.RowKit Go.Shelf Go.Maps
set_option linter.unusedSimpArgs false
set_option linter.unusedVariables false

theorem zero3 (W : World) : ∀ k, k < 3 → (W.alloc (.cells #[.int .i64 0, .int .i64 0, .int .i64 0] errT)).cell? ⟨W.heap.size, k, none⟩ = some (.int .i64 0) := by
  intro k hk
  rw [cells_new]
  have : k = 0 ∨ k = 1 ∨ k = 2 := by omega
  rcases this with rfl | rfl | rfl <;> rfl
abbrev twoT : TypeId := 81
theorem laidOutP : laidOutB Tryd.prog = true := by kernel_rfl
theorem rowTwo : twoT < Tryd.prog.types.size := by decide +kernel
theorem twoK : Keyed Tryd.prog twoT := Keyed.of_law (deep_law_laid laidOutP (m := 2) (by omega) rowTwo (by kernel_rfl) (by kernel_rfl))
def enT (c : ByteArray × ByteArray) : Value := .agg #[.string c.1, .string c.2]
theorem enT_inj (c c' : ByteArray × ByteArray) (h : enT c = enT c') : c = c' := by
  obtain ⟨a, b⟩ := c
  obtain ⟨a', b'⟩ := c'
  simp [enT] at h
  obtain ⟨rfl, rfl⟩ := h
  rfl
abbrev MapP (w : World) (b n : Nat) (g : ByteArray × ByteArray → Option Value) : Prop := MapK Tryd.prog twoT enT w b n g
theorem lookP {w : World} {b n : Nat} {g : ByteArray × ByteArray → Option Value} (h : MapP w b n g) (c : ByteArray × ByteArray) {kl : Lit} (hc : keyOf Tryd.prog twoT (enT c) = some kl) :
    (Instr.lookup 80 (.map (some b)) (enT c) false).run Tryd.prog w = .ok ((g c).getD (.bool false)) w := h.look twoK Tryd.underlying80 (zeroB w) hc false
def gK (L : List Air) (c : ByteArray) : Option Value := if L.any (fun b => decide (b.city = c)) then some (.bool true) else none
theorem gK_put (L : List Air) (a : Air) : (fun c' => if c' = a.city then some (Value.bool true) else gK L c') = gK (L ++ [a]) := by
  funext c
  unfold gK
  by_cases e : c = a.city
  · subst e; simp
  · have e' : ¬ a.city = c := fun h => e h.symm
    simp [e, e']
def gP (pk : Nat → ByteArray × ByteArray) (k : Nat) (c : ByteArray × ByteArray) : Option Value := if (List.range k).any (fun j => decide (pk j = c)) then some (.bool true) else none
theorem gP_put (pk : Nat → ByteArray × ByteArray) (k : Nat) : (fun c' => if c' = pk k then some (Value.bool true) else gP pk k c') = gP pk (k + 1) := by
  funext c
  unfold gP
  rw [List.range_succ]
  by_cases e : c = pk k
  · subst e; simp
  · have e' : ¬ pk k = c := fun h => e h.symm
    simp [e, e']
/-- there is nothing to report of distances -/
structure NoD (l : List Air) (pk : Nat → ByteArray × ByteArray) (k : Nat) (d : Dst) : Prop where
  mn : ∀ W, (Builtin.min_ #[9, 9] 9 #[.string d.f, .string d.t]).run Tryd.prog W = .ok (.string (pk k).1) W
  mx : ∀ W, (Builtin.max_ #[9, 9] 9 #[.string d.f, .string d.t]).run Tryd.prog W = .ok (.string (pk k).2) W
  key : ∃ kl, keyOf Tryd.prog twoT (enT (pk k)) = some kl
  one : (List.range k).any (fun j => decide (pk j = pk k)) = false
  kf : l.any (fun b => decide (b.city = d.f)) = true
  kt : l.any (fun b => decide (b.city = d.t)) = true
  use : useB d = true
  ne : (d.f.toList == d.t.toList) = false

set_option maxRecDepth 100000 in
set_option maxHeartbeats 8000000 in
theorem distances0_any (p : PV) (pk : Nat → ByteArray × ByteArray) (w : World) (hp : OkP p) (hL : PlL w p) (hno : ∀ k d, p.ds[k]? = some d → NoD p.l pk k d) :
    Calls Tryd.prog 26 #[encP p] w fun e w' => e = .returned nilS ∧ Below w.heap.size w w' := by
  obtain ⟨A, ca, l, D, cd, ds⟩ := p
  obtain ⟨hA, hD, hla, hld⟩ := hp
  obtain ⟨hLa, hLd⟩ := hL
  dsimp only at *
  have hmm := @run_makeMap Tryd.prog
  have b1 := bel_alloc w (.cells #[.slice A l.length ca, .slice D ds.length cd] placesT)
  have b2 := bel_alloc (w.alloc (.cells #[.slice A l.length ca, .slice D ds.length cd] placesT)) (.map #[] 0)
  have p0 := cells_new w #[.slice A l.length ca, .slice D ds.length cd] placesT 0
  have p1 := cells_new w #[.slice A l.length ca, .slice D ds.length cd] placesT 1
  simp only [List.getElem?_toArray, List.getElem?_cons_zero, List.getElem?_cons_succ] at p0 p1
  have p0 := bel_cell b2 p0
  have p1 := bel_cell b2 p1
  have m1 : MapS ((w.alloc (.cells #[.slice A l.length ca, .slice D ds.length cd] placesT)).alloc (.map #[] 0)) (w.heap.size + 1) 0 (gK (l.take 0)) := by
    have := MapK.made (w.alloc (.cells #[.slice A l.length ca, .slice D ds.length cd] placesT)) Tryd.prog 9 Value.string
    rw [World.size_alloc] at this
    exact this
  have hb0 : Below w.heap.size w ((w.alloc (.cells #[.slice A l.length ca, .slice D ds.length cd] placesT)).alloc (.map #[] 0)) := b1.alloc b1.size _
  clear b1 b2
  have HNO := Lib.hid hno
  clear hno
  have HP : Hid (∀ W : World, W.heap[w.heap.size]? = ((w.alloc (.cells #[.slice A l.length ca, .slice D ds.length cd] placesT)).alloc (.map #[] 0)).heap[w.heap.size]? → W.cell? ⟨w.heap.size, 0, none⟩ = some (.slice A l.length ca) ∧ W.cell? ⟨w.heap.size, 1, none⟩ = some (.slice D ds.length cd)) :=
    Lib.hid (fun W h => ⟨(World.cell?_of_block (a := ⟨w.heap.size, 0, none⟩) h).trans p0, (World.cell?_of_block (a := ⟨w.heap.size, 1, none⟩) h).trans p1⟩)
  go_enter Tryd.func26, Tryd.ntmps26
  go_wp2
  generalize (w.alloc (.cells #[.slice A l.length ca, .slice D ds.length cd] placesT)).alloc (.map #[] 0) = w0 at *
  have hB0 : w.heap.size < w0.heap.size := World.block_lt_of_cell? _ _ p0
  go_loopw [15] (fun vi wr => ∃ (k n : Nat), k ≤ l.length ∧ vi = .int .i64 k ∧ n ≤ k ∧ Hid (MapS wr (w.heap.size + 1) n (gK (l.take k)) ∧ Below w.heap.size w wr ∧ wr.heap[w.heap.size]? = w0.heap[w.heap.size]?)) (fun vi _ => l.length - (intOf vi).toNat)
  case atStart => exact ⟨0, 0, Nat.zero_le _, rfl, Nat.le_refl _, Lib.hid ⟨m1, hb0, rfl⟩⟩
  case round =>
    obtain ⟨k, n, hk, rfl, hn, HH⟩ := hrel
    clear m1 hb0
    by_cases hlt : k < l.length
    · obtain ⟨bb, off, a, rfl, hgl, hka, ha⟩ := (hLa.more HH.out.2.1).at hlt
      obtain ⟨a0, a1, a2, a3, a4, ash⟩ := ha
      have i2 : (k : Int) < (l.length : Int) := by omega
      obtain ⟨s1, s2, s3, s4, s5⟩ := hA a (List.mem_of_getElem? hka)
      have hT := Lib.hid (show l.take (k + 1) = l.take k ++ [a] by rw [List.take_add_one, hka]; rfl)
      have hbN := bel_alloc wr (.cells #[.string a.code, .string a.city, .string a.land, .int .i64 a.off, .slice a.A a.shs.length a.c] airT)
      have hm := HH.out.1.more hbN
      have hlB := HH.out.1.lt
      clear hka
      go_wp2_with (at_mapUpdate; refine wpList_put rfl _ _ _ 73 rfl strK str_inj Tryd.underlying73 rfl hm (by unfold maxLen; omega) a.city _ rfl (str_key a.city s2) ?_; intro w9 hm9 hg9; refine Hid.out ?_)
      have hbw := HH.out.2.1
      have hbw5 := hbw.trans (hbN.mono hbw.size)
      have hb9 : Below w.heap.size w w9 := hbw5.grown hg9 hbw5.size (fun k hk => by cases hk; omega)
      have hq9 : w9.heap[w.heap.size]? = w0.heap[w.heap.size]? := (hg9.block w.heap.size (Nat.lt_of_lt_of_le (show w.heap.size < wr.heap.size by omega) hbN.size) (fun e => absurd (Option.some.inj e) (show ¬ w.heap.size = w.heap.size + 1 by omega))).trans ((hbN.block w.heap.size (show w.heap.size < wr.heap.size by omega)).trans HH.out.2.2)
      have HX := Lib.hid (show MapS w9 (w.heap.size + 1) (n + 1) (gK (l.take (k + 1))) ∧ Below w.heap.size w w9 ∧ w9.heap[w.heap.size]? = w0.heap[w.heap.size]? from ⟨by rw [hT.out, ← gK_put]; exact hm9, hb9, hq9⟩)
      refine Lib.hid ?_
      go_wp2
      go_roundw
      case rel => exact ⟨k + 1, n + 1, by omega, by go_num, by omega, HX⟩
      case measure => simp [intOf]; omega
    have hkl : k = l.length := by omega
    have hmK : MapS wr (w.heap.size + 1) n (gK l) := by have h := HH.out.1; rwa [hkl, List.take_of_length_le (Nat.le_refl _)] at h
    have hbw := HH.out.2.1
    have hq0 := HH.out.2.2
    obtain ⟨x0, x1⟩ := HP.out wr hq0
    have hbM := bel_alloc wr (.map #[] 0)
    have hsz := hmK.lt
    obtain ⟨y0, y1⟩ := HP.out (wr.alloc (.map #[] 0)) ((hbM.block _ (by omega)).trans hq0)
    have hmP : MapP (wr.alloc (.map #[] 0)) wr.heap.size 0 (gP pk 0) := MapK.made wr _ _ _
    have HI : Hid (MapS (wr.alloc (.map #[] 0)) (w.heap.size + 1) n (gK l) ∧ MapP (wr.alloc (.map #[] 0)) wr.heap.size 0 (gP pk 0) ∧ Below w.heap.size w (wr.alloc (.map #[] 0))) := Lib.hid ⟨hmK.more hbM, hmP, hbw.trans (hbM.mono hbw.size)⟩
    obtain ⟨PB, hPB⟩ : ∃ PB, PB = wr.heap.size := ⟨_, rfl⟩
    have hPB1 : w.heap.size + 1 < PB := by omega
    go_wp2
    rw [← hPB] at HI ⊢
    clear hkl hPB hmK hmP hq0 x0 x1 y0 y1 hbM hbw hsz HH
    go_loopw [3, 27] (fun s3 vi W => ∃ (k m : Nat), s3 = nilS ∧ k ≤ ds.length ∧ vi = .int .i64 k ∧ m ≤ k ∧ Hid (MapS W (w.heap.size + 1) n (gK l) ∧ MapP W PB m (gP pk k) ∧ Below w.heap.size w W)) (fun _ vi _ => ds.length - (intOf vi).toNat)
    case atStart => exact ⟨0, 0, rfl, Nat.zero_le _, rfl, Nat.le_refl _, HI⟩
    case round =>
      obtain ⟨k, m, rfl, hk, rfl, hm, HJ⟩ := hrel
      by_cases hlt2 : k < ds.length
      · obtain ⟨bb, off, d, rfl, hgl, hkd, hd⟩ := (hLd.more HJ.out.2.2).at hlt2
        obtain ⟨d0, d1, d2⟩ := hd
        have i2 : (k : Int) < (ds.length : Int) := by omega
        obtain ⟨mn, mx, ⟨kl, hkey⟩, one, kf, kt, use, ne⟩ := HNO.out k d hkd
        obtain ⟨sf, st⟩ := hD d (List.mem_of_getElem? hkd)
        go_wp2
        have hb1 := bel_alloc wr (.cells #[.string d.f, .string d.t, .int .i64 d.m] dstT)
        have hb2 := bel_alloc (wr.alloc (.cells #[.string d.f, .string d.t, .int .i64 d.m] dstT)) (.cells #[.string (pk k).1, .string (pk k).2] twoT)
        have q0 := bel_cell hb2 ((cells_new wr #[.string d.f, .string d.t, .int .i64 d.m] dstT 0).trans (show _ = some _ from rfl))
        have q1 := bel_cell hb2 ((cells_new wr #[.string d.f, .string d.t, .int .i64 d.m] dstT 1).trans (show _ = some _ from rfl))
        have q2 := bel_cell hb2 ((cells_new wr #[.string d.f, .string d.t, .int .i64 d.m] dstT 2).trans (show _ = some _ from rfl))
        have r0 := (cells_new (wr.alloc (.cells #[.string d.f, .string d.t, .int .i64 d.m] dstT)) #[.string (pk k).1, .string (pk k).2] twoT 0).trans (show _ = some _ from rfl)
        have r1 := (cells_new (wr.alloc (.cells #[.string d.f, .string d.t, .int .i64 d.m] dstT)) #[.string (pk k).1, .string (pk k).2] twoT 1).trans (show _ = some _ from rfl)
        rw [World.size_alloc] at r0 r1
        have hb12 : Below wr.heap.size wr ((wr.alloc (.cells #[.string d.f, .string d.t, .int .i64 d.m] dstT)).alloc (.cells #[.string (pk k).1, .string (pk k).2] twoT)) := hb1.trans (hb2.mono hb1.size)
        have mm1 := HJ.out.1.more hb12
        have mm2 := HJ.out.2.1.more hb12
        have hb5 := HJ.out.2.2.trans (hb12.mono HJ.out.2.2.size)
        have hPBl := HJ.out.2.1.lt
        clear hb1 hb2 hb12 HJ hkd d0 d1 d2 hLd mn mx
        generalize (wr.alloc (.cells #[.string d.f, .string d.t, .int .i64 d.m] dstT)).alloc (.cells #[.string (pk k).1, .string (pk k).2] twoT) = w5 at *
        have f0 : ∀ W, SW w5 W → W.cell? ⟨wr.heap.size, 0, none⟩ = some (.string d.f) := bel_get q0
        have f1 : ∀ W, SW w5 W → W.cell? ⟨wr.heap.size, 1, none⟩ = some (.string d.t) := bel_get q1
        have f2 : ∀ W, SW w5 W → W.cell? ⟨wr.heap.size, 2, none⟩ = some (.int .i64 d.m) := bel_get q2
        have g0 : ∀ W, SW w5 W → W.cell? ⟨wr.heap.size + 1, 0, none⟩ = some (.string (pk k).1) := bel_get r0
        have g1 : ∀ W, SW w5 W → W.cell? ⟨wr.heap.size + 1, 1, none⟩ = some (.string (pk k).2) := bel_get r1
        have lkF : ∀ W, SW w5 W → (Instr.lookup 73 (.map (some (w.heap.size + 1))) (.string d.f) false).run Tryd.prog W = .ok (.bool true) W := fun W hW => by
          have h := lookB (mm1.more hW) d.f sf
          rw [show gK l d.f = some (.bool true) by unfold gK; rw [kf]; rfl] at h
          exact h
        have lkT : ∀ W, SW w5 W → (Instr.lookup 73 (.map (some (w.heap.size + 1))) (.string d.t) false).run Tryd.prog W = .ok (.bool true) W := fun W hW => by
          have h := lookB (mm1.more hW) d.t st
          rw [show gK l d.t = some (.bool true) by unfold gK; rw [kt]; rfl] at h
          exact h
        have lkP : ∀ W, SW w5 W → (Instr.lookup 80 (.map (some PB)) (.agg #[.string (pk k).1, .string (pk k).2]) false).run Tryd.prog W = .ok (.bool false) W := fun W hW => by
          have h := lookP (mm2.more hW) (pk k) hkey
          rw [show gP pk k (pk k) = none by unfold gP; rw [one]; rfl] at h
          exact h
        have KU := Lib.hid (SW.call (w5 := w5) (fun W hW => usable_any d W))
        have KW : Hid (∀ (e : Int) W, SW w5 W → Calls Tryd.prog 39 #[.bool false, .int .i64 e] W fun r w' => r = .returned (.int .i64 0) ∧ SW w5 w') := Lib.hid (fun e W hW => (when_any false e W).mono (by rintro r w' ⟨rfl, rfl⟩; exact ⟨rfl, hW⟩))
        rw [use] at KU
        have MM1 := Lib.hid mm1
        have MM2 := Lib.hid mm2
        have HK := Lib.hid hkey
        clear mm1 mm2 one kf kt use hkey q0 q1 q2 r0 r1
        have hS : (SW w5) _ := SW.drew w5
        refine wp_region_held_drew (S := SW w5) (by kernel_rfl) hS (fun _ => ?_)
        refine wpAnyH_take (i := 0) (v := ?vD0) rfl (by kernel_rfl) (by kernel_rfl) (by kernel_rfl) (fun _ _ _ h => h) (Or.inl ⟨by rfl, ?hyD0⟩) hS ?restD0
        case hyD0 =>
          intro w hSw
          first | (go_simp; done) | (go_simp; with_reducible rfl)
        try simp only [Act.put, List.setIfInBounds_toArray, List.set_cons_zero, List.set_cons_succ]
        refine wpAnyH_take (i := 1) (v := ?vD1) rfl (by kernel_rfl) (by kernel_rfl) (by kernel_rfl) (fun _ _ _ h => h) (Or.inl ⟨by rfl, ?hyD1⟩) hS ?restD1
        case hyD1 =>
          intro w hSw
          first | (go_simp; done) | (go_simp; with_reducible rfl)
        try simp only [Act.put, List.setIfInBounds_toArray, List.set_cons_zero, List.set_cons_succ]
        refine wpAnyH_take (i := 2) (v := ?vD2) rfl (by kernel_rfl) (by kernel_rfl) (by kernel_rfl) (fun _ _ _ h => h) (Or.inl ⟨by rfl, ?hyD2⟩) hS ?restD2
        case hyD2 =>
          intro w hSw
          first | (go_simp; done) | (go_simp; with_reducible rfl)
        try simp only [Act.put, List.setIfInBounds_toArray, List.set_cons_zero, List.set_cons_succ]
        refine wpAnyH_take (i := 3) (v := ?vD3) rfl (by kernel_rfl) (by kernel_rfl) (by kernel_rfl) (fun _ _ _ h => h) (Or.inl ⟨by rfl, ?hyD3⟩) hS ?restD3
        case hyD3 =>
          intro w hSw
          first | (go_simp; done) | (go_simp; with_reducible rfl)
        try simp only [Act.put, List.setIfInBounds_toArray, List.set_cons_zero, List.set_cons_succ]
        refine wpAnyH_take (i := 4) (v := ?vD4) rfl (by kernel_rfl) (by kernel_rfl) (by kernel_rfl) (fun _ _ _ h => h) (Or.inl ⟨by rfl, ?hyD4⟩) hS ?restD4
        case hyD4 =>
          intro w hSw
          have k0 := f0 w hSw; have k1 := f1 w hSw; have k2 := f2 w hSw; have k3 := g0 w hSw; have k4 := g1 w hSw; have k5 := lkF w hSw; have k6 := lkT w hSw; have k7 := lkP w hSw
          first | (go_simp; done) | (go_simp; with_reducible rfl)
        try simp only [Act.put, List.setIfInBounds_toArray, List.set_cons_zero, List.set_cons_succ]
        refine wpAnyH_take (i := 5) (v := ?vD5) rfl (by kernel_rfl) (by kernel_rfl) (by kernel_rfl) (fun _ _ _ h => h) (Or.inl ⟨by rfl, ?hyD5⟩) hS ?restD5
        case hyD5 =>
          intro w hSw
          have k0 := f0 w hSw; have k1 := f1 w hSw; have k2 := f2 w hSw; have k3 := g0 w hSw; have k4 := g1 w hSw; have k5 := lkF w hSw; have k6 := lkT w hSw; have k7 := lkP w hSw
          first | (go_simp; done) | (go_simp; with_reducible rfl)
        try simp only [Act.put, List.setIfInBounds_toArray, List.set_cons_zero, List.set_cons_succ]
        refine wpAnyH_take (i := 6) (v := ?vD6) rfl (by kernel_rfl) (by kernel_rfl) (by kernel_rfl) (fun _ _ _ h => h) (Or.inl ⟨by rfl, ?hyD6⟩) hS ?restD6
        case hyD6 =>
          intro w hSw
          first | (go_simp; done) | (go_simp; with_reducible rfl)
        try simp only [Act.put, List.setIfInBounds_toArray, List.set_cons_zero, List.set_cons_succ]
        refine wpAnyH_take (i := 7) (v := ?vD7) rfl (by kernel_rfl) (by kernel_rfl) (by kernel_rfl) (fun _ _ _ h => h) (Or.inl ⟨by rfl, ?hyD7⟩) hS ?restD7
        case hyD7 =>
          intro w hSw
          first | (go_simp; done) | (go_simp; with_reducible rfl)
        try simp only [Act.put, List.setIfInBounds_toArray, List.set_cons_zero, List.set_cons_succ]
        refine wpAnyH_take (i := 8) (v := ?vD8) rfl (by kernel_rfl) (by kernel_rfl) (by kernel_rfl) (fun _ _ _ h => h) (Or.inl ⟨by kernel_rfl, ?hyD8⟩) hS ?restD8
        case hyD8 =>
          intro w hSw
          first | (go_simp; done) | (go_simp; with_reducible rfl)
        try simp only [Act.put, List.setIfInBounds_toArray, List.set_cons_zero, List.set_cons_succ]
        refine wpAnyH_take (i := 9) (v := ?vD9) rfl (by kernel_rfl) (by kernel_rfl) (by kernel_rfl) (fun _ _ _ h => h) (Or.inl ⟨by kernel_rfl, ?hyD9⟩) hS ?restD9
        case hyD9 =>
          intro w hSw
          first | (go_simp; done) | (go_simp; with_reducible rfl)
        try simp only [Act.put, List.setIfInBounds_toArray, List.set_cons_zero, List.set_cons_succ]
        refine wpAnyH_take (i := 10) (v := ?vD10) rfl (by kernel_rfl) (by kernel_rfl) (by kernel_rfl) (fun _ _ _ h => h) (Or.inl ⟨by kernel_rfl, ?hyD10⟩) hS ?restD10
        case hyD10 =>
          intro w hSw
          have k0 := f0 w hSw; have k1 := f1 w hSw; have k2 := f2 w hSw; have k3 := g0 w hSw; have k4 := g1 w hSw; have k5 := lkF w hSw; have k6 := lkT w hSw; have k7 := lkP w hSw
          first | (go_simp; done) | (go_simp; with_reducible rfl)
        try simp only [Act.put, List.setIfInBounds_toArray, List.set_cons_zero, List.set_cons_succ]
        refine wpAnyH_take (i := 11) (v := ?vD11) rfl (by kernel_rfl) (by kernel_rfl) (by kernel_rfl) (fun _ _ _ h => h) (Or.inl ⟨by kernel_rfl, ?hyD11⟩) hS ?restD11
        case hyD11 =>
          intro w hSw
          have k0 := f0 w hSw; have k1 := f1 w hSw; have k2 := f2 w hSw; have k3 := g0 w hSw; have k4 := g1 w hSw; have k5 := lkF w hSw; have k6 := lkT w hSw; have k7 := lkP w hSw
          first | (go_simp; done) | (go_simp; with_reducible rfl)
        try simp only [Act.put, List.setIfInBounds_toArray, List.set_cons_zero, List.set_cons_succ]
        refine wpAnyH_take (i := 12) (v := ?vD12) rfl (by kernel_rfl) (by kernel_rfl) (by kernel_rfl) (fun _ _ _ h => h) (Or.inl ⟨by kernel_rfl, ?hyD12⟩) hS ?restD12
        case hyD12 =>
          intro w hSw
          first | (go_simp; done) | (go_simp; with_reducible rfl)
        try simp only [Act.put, List.setIfInBounds_toArray, List.set_cons_zero, List.set_cons_succ]
        refine wpAnyH_take (i := 13) (v := ?vD13) rfl (by kernel_rfl) (by kernel_rfl) (by kernel_rfl) (fun _ _ _ h => h) (Or.inl ⟨by rfl, ?hyD13⟩) hS ?restD13
        case hyD13 =>
          intro w hSw
          first | (go_simp; done) | (go_simp; with_reducible rfl)
        try simp only [Act.put, List.setIfInBounds_toArray, List.set_cons_zero, List.set_cons_succ]
        refine wpAnyH_take (i := 15) (v := ?vD15) rfl (by kernel_rfl) (by kernel_rfl) (by kernel_rfl) (fun _ _ _ h => h) (Or.inl ⟨by rfl, ?hyD15⟩) hS ?restD15
        case hyD15 =>
          intro w hSw
          first | (go_simp; done) | (go_simp; with_reducible rfl)
        try simp only [Act.put, List.setIfInBounds_toArray, List.set_cons_zero, List.set_cons_succ]
        refine wpAnyH_take (i := 16) (v := ?vD16) rfl (by kernel_rfl) (by kernel_rfl) (by kernel_rfl) (fun _ _ _ h => h) (Or.inl ⟨by rfl, ?hyD16⟩) hS ?restD16
        case hyD16 =>
          intro w hSw
          have k0 := f0 w hSw; have k1 := f1 w hSw; have k2 := f2 w hSw; have k3 := g0 w hSw; have k4 := g1 w hSw; have k5 := lkF w hSw; have k6 := lkT w hSw; have k7 := lkP w hSw
          first | (go_simp; done) | (go_simp; with_reducible rfl)
        try simp only [Act.put, List.setIfInBounds_toArray, List.set_cons_zero, List.set_cons_succ]
        refine wpAnyH_take (i := 17) (v := ?vD17) rfl (by kernel_rfl) (by kernel_rfl) (by kernel_rfl) (fun _ _ _ h => h) (Or.inl ⟨by rfl, ?hyD17⟩) hS ?restD17
        case hyD17 =>
          intro w hSw
          have k0 := f0 w hSw; have k1 := f1 w hSw; have k2 := f2 w hSw; have k3 := g0 w hSw; have k4 := g1 w hSw; have k5 := lkF w hSw; have k6 := lkT w hSw; have k7 := lkP w hSw
          first | (go_simp; done) | (go_simp; with_reducible rfl)
        try simp only [Act.put, List.setIfInBounds_toArray, List.set_cons_zero, List.set_cons_succ]
        refine wpAnyH_take (i := 19) (v := ?vD19) rfl (by kernel_rfl) (by kernel_rfl) (by kernel_rfl) (fun _ _ _ h => h) (Or.inl ⟨by rfl, ?hyD19⟩) hS ?restD19
        case hyD19 =>
          intro w hSw
          have k0 := f0 w hSw; have k1 := f1 w hSw; have k2 := f2 w hSw; have k3 := g0 w hSw; have k4 := g1 w hSw; have k5 := lkF w hSw; have k6 := lkT w hSw; have k7 := lkP w hSw
          first | (go_simp; done) | (go_simp; with_reducible rfl)
        try simp only [Act.put, List.setIfInBounds_toArray, List.set_cons_zero, List.set_cons_succ]
        refine wpAnyH_ready (rs := [14]) (by kernel_rfl) (by simp) ?_
        refine AllReadyH.cons rfl (fun K hK => ?_) AllReadyH.nil
        go_simp
        go_wp2_with ((go_at_call 39; refine (KW.out _ _ hS).mono ?_; rintro e w' ⟨rfl, hS⟩))
        refine hK.out _ _ hS (fun _ => ?_)
        clear hK K
        refine wpAnyH_ready (rs := [18]) (by kernel_rfl) (by simp) ?_
        refine AllReadyH.cons rfl (fun K hK => ?_) AllReadyH.nil
        go_simp
        go_wp2_with ((go_at_call 39; refine (KW.out _ _ hS).mono ?_; rintro e w' ⟨rfl, hS⟩))
        refine hK.out _ _ hS (fun _ => ?_)
        clear hK K
        refine wpAnyH_ready (rs := [20]) (by kernel_rfl) (by simp) ?_
        refine AllReadyH.cons rfl (fun K hK => ?_) AllReadyH.nil
        go_simp
        go_wp2_with ((go_at_call 42; refine (KU.out _ hS).mono ?_; rintro e w' ⟨rfl, hS⟩))
        refine hK.out _ _ hS (fun _ => ?_)
        clear hK K
        refine wpAnyH_take (i := 21) (v := ?vD21) rfl (by kernel_rfl) (by kernel_rfl) (by kernel_rfl) (fun _ _ _ h => h) (Or.inl ⟨by rfl, ?hyD21⟩) hS ?restD21
        case hyD21 =>
          intro w hSw
          first | (go_simp; done) | (go_simp; with_reducible rfl)
        try simp only [Act.put, List.setIfInBounds_toArray, List.set_cons_zero, List.set_cons_succ]
        refine wpAnyH_take (i := 22) (v := ?vD22) rfl (by kernel_rfl) (by kernel_rfl) (by kernel_rfl) (fun _ _ _ h => h) (Or.inl ⟨by rfl, ?hyD22⟩) hS ?restD22
        case hyD22 =>
          intro w hSw
          first | (go_simp; done) | (go_simp; with_reducible rfl)
        try simp only [Act.put, List.setIfInBounds_toArray, List.set_cons_zero, List.set_cons_succ]
        refine wpAnyH_take (i := 23) (v := ?vD23) rfl (by kernel_rfl) (by kernel_rfl) (by kernel_rfl) (fun _ _ _ h => h) (Or.inl ⟨by kernel_rfl, ?hyD23⟩) hS ?restD23
        case hyD23 =>
          intro w hSw
          first | (go_simp; done) | (go_simp; with_reducible rfl)
        try simp only [Act.put, List.setIfInBounds_toArray, List.set_cons_zero, List.set_cons_succ]
        refine wpAnyH_take (i := 24) (v := ?vD24) rfl (by kernel_rfl) (by kernel_rfl) (by kernel_rfl) (fun _ _ _ h => h) (Or.inl ⟨by kernel_rfl, ?hyD24⟩) hS ?restD24
        case hyD24 =>
          intro w hSw
          have k0 := f0 w hSw; have k1 := f1 w hSw; have k2 := f2 w hSw; have k3 := g0 w hSw; have k4 := g1 w hSw; have k5 := lkF w hSw; have k6 := lkT w hSw; have k7 := lkP w hSw
          first | (go_simp; done) | (go_simp; with_reducible rfl)
        try simp only [Act.put, List.setIfInBounds_toArray, List.set_cons_zero, List.set_cons_succ]
        refine wpAnyH_take (i := 25) (v := ?vD25) rfl (by kernel_rfl) (by kernel_rfl) (by kernel_rfl) (fun _ _ _ h => h) (Or.inl ⟨by kernel_rfl, ?hyD25⟩) hS ?restD25
        case hyD25 =>
          intro w hSw
          first | (go_simp; done) | (go_simp; with_reducible rfl)
        try simp only [Act.put, List.setIfInBounds_toArray, List.set_cons_zero, List.set_cons_succ]
        refine wpAnyH_take (i := 26) (v := ?vD26) rfl (by kernel_rfl) (by kernel_rfl) (by kernel_rfl) (fun _ _ _ h => h) (Or.inl ⟨by kernel_rfl, ?hyD26⟩) hS ?restD26
        case hyD26 =>
          intro w hSw
          have k0 := f0 w hSw; have k1 := f1 w hSw; have k2 := f2 w hSw; have k3 := g0 w hSw; have k4 := g1 w hSw; have k5 := lkF w hSw; have k6 := lkT w hSw; have k7 := lkP w hSw
          first | (go_simp; done) | (go_simp; with_reducible rfl)
        try simp only [Act.put, List.setIfInBounds_toArray, List.set_cons_zero, List.set_cons_succ]
        refine wpAnyH_take (i := 27) (v := ?vD27) rfl (by kernel_rfl) (by kernel_rfl) (by kernel_rfl) (fun _ _ _ h => h) (Or.inl ⟨by kernel_rfl, ?hyD27⟩) hS ?restD27
        case hyD27 =>
          intro w hSw
          first | (go_simp; done) | (go_simp; with_reducible rfl)
        try simp only [Act.put, List.setIfInBounds_toArray, List.set_cons_zero, List.set_cons_succ]
        refine wpAnyH_take (i := 28) (v := ?vD28) rfl (by kernel_rfl) (by kernel_rfl) (by kernel_rfl) (fun _ _ _ h => h) (Or.inl ⟨by rfl, ?hyD28⟩) hS ?restD28
        case hyD28 =>
          intro w hSw
          first | (go_simp; done) | (go_simp; with_reducible rfl)
        try simp only [Act.put, List.setIfInBounds_toArray, List.set_cons_zero, List.set_cons_succ]
        refine wpAnyH_ready (rs := [29]) (by kernel_rfl) (by simp) ?_
        refine AllReadyH.cons rfl (fun K hK => ?_) AllReadyH.nil
        go_simp
        go_wp2_with ((go_at_call 39; refine (KW.out _ _ hS).mono ?_; rintro e w' ⟨rfl, hS⟩))
        refine hK.out _ _ hS (fun _ => ?_)
        clear hK K
        refine wpAnyH_ready (rs := [30]) (by kernel_rfl) (by simp) ?_
        refine AllReadyH.cons rfl (fun K hK => ?_) AllReadyH.nil
        go_simp
        have hS := hS.trans ((bel_alloc _ (.cells #[.int .i64 0, .int .i64 0, .int .i64 0] errT)).mono hS.size)
        refine hK.out _ _ hS (fun _ => ?_)
        clear hK K
        refine wpAnyH_ready (rs := [31]) (by kernel_rfl) (by simp) ?_
        refine AllReadyH.cons rfl (fun K hK => ?_) AllReadyH.nil
        go_simp
        go_wp2_with ((go_at_call 38; refine (report0_any _ _ _ _ 3 3 _ (by omega) (zero3 _)).mono ?_; rintro e w' ⟨rfl, rfl⟩))
        refine hK.out _ _ hS (fun _ => ?_)
        clear hK K
        refine wpAnyH_take (i := 32) (v := ?vD32) rfl (by kernel_rfl) (by kernel_rfl) (by kernel_rfl) (fun _ _ _ h => h) (Or.inl ⟨by rfl, ?hyD32⟩) hS ?restD32
        case hyD32 =>
          intro w hSw
          first | (go_simp; done) | (go_simp; with_reducible rfl)
        try simp only [Act.put, List.setIfInBounds_toArray, List.set_cons_zero, List.set_cons_succ]
        refine wpAnyH_done (by kernel_rfl) ?_ _
        have x0 := g0 _ hS
        have x1 := g1 _ hS
        have hmQ := MM2.out.more hS
        have hB12 : w.heap.size + 1 ≠ PB := by omega
        have hwPB : w.heap.size ≤ PB := by omega
        go_wp2_with (at_mapUpdate; refine wpList_put (en := enT) rfl _ _ _ 80 rfl twoK enT_inj Tryd.underlying80 rfl hmQ (by unfold maxLen; omega) (pk k) _ rfl HK.out ?_; intro w9 hm9 hg9; refine Hid.out ?_)
        have hb9 : Below w.heap.size w w9 := (hb5.trans (Below.mono hS hb5.size)).grown hg9 (Nat.le_trans hb5.size hS.size) (fun k hk => by cases hk; exact hwPB)
        have HX : Hid (MapS w9 (w.heap.size + 1) n (gK l) ∧ MapP w9 PB (m + 1) (gP pk (k + 1)) ∧ Below w.heap.size w w9) := Lib.hid ⟨(MM1.out.more hS).grown hg9 (fun e => hB12 (Option.some.inj e)), by rw [← gP_put]; exact hm9, hb9⟩
        clear hmQ hm9
        refine Lib.hid ?_
        go_wp2
        go_roundw
        case rel => exact ⟨k + 1, m + 1, rfl, by omega, by go_num, by omega, HX⟩
        case measure => simp [intOf]; omega
      · go_wp2
        go_ret
        exact ⟨rfl, HJ.out.2.2⟩

end Go.Proofs.YtfdbfmhgpegchaaDoor
