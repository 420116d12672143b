/- Walk of checkDistances, whatever there is to report. -/
import Derived.Test.YtjokpfeiganigaaDoorPlaL
import Derived.DeepKeys4
import Derived.WideKeyPair
namespace Go.Proofs.YtjokpfeiganigaaDoor
open Go.RowKit Go.Shelf Go.Maps
set_option linter.unusedSimpArgs false
set_option linter.unusedVariables false

abbrev twoT : TypeId := 110
theorem laidOutP : laidOutB Tryd.prog = true := by kernel_rfl
theorem rowTwo : twoT < Tryd.prog.types.size := by decide +kernel
theorem twoK : Keyed Tryd.prog twoT := Keyed.of_law (deep_law_laid laidOutP (m := 2) (by omega) rowTwo (by kernel_rfl) (by kernel_rfl))
def enT (c : ByteArray × ByteArray) : Value := .agg #[.string c.1, .string c.2]
theorem enT_inj (c c' : ByteArray × ByteArray) (h : enT c = enT c') : c = c' := by
  obtain ⟨a, b⟩ := c
  obtain ⟨a', b'⟩ := c'
  simp [enT] at h
  obtain ⟨rfl, rfl⟩ := h
  rfl
theorem key_two (c : ByteArray × ByteArray) (h1 : c.1.size ≤ maxLen) (h2 : c.2.size ≤ maxLen) : ∃ kl, keyOf Tryd.prog twoT (enT c) = some kl := by
  have A : WideMaps.ArrKey Tryd.prog twoT 9 2 := ⟨Tryd.underlying110, by kernel_rfl, by kernel_rfl, by kernel_rfl⟩
  have he := Tryd.underlying9
  obtain ⟨m, hm⟩ : ∃ m, Tryd.prog.types.size = m + 1 := ⟨Tryd.prog.types.size - 1, by decide +kernel⟩
  have hkt := A.keyType ⟨m, hm⟩
  refine ⟨.string (keyBytes [.string c.1.data.toList, .string c.2.data.toList]), ?_⟩
  unfold keyOf enT
  simp only [A.hu]
  rw [if_pos (by simp [hkt, Value.formed, A.hu, A.size]), hm]
  unfold Program.keyLits
  simp only [A.hu, Value.cells]
  rw [if_pos (by rw [A.size]; rfl), show List.range 2 = [0, 1] from rfl, List.mapM_cons, List.mapM_cons, List.mapM_nil]
  simp [A.one, Program.keyLits, he, h1, h2]
abbrev MapP (w : World) (b n : Nat) (g : ByteArray × ByteArray → Option Value) : Prop := MapK Tryd.prog twoT enT w b n g
theorem lookP {w : World} {b n : Nat} {g : ByteArray × ByteArray → Option Value} (h : MapP w b n g) (c : ByteArray × ByteArray) {kl : Lit} (hc : keyOf Tryd.prog twoT (enT c) = some kl) :
    (Instr.lookup 109 (.map (some b)) (enT c) false).run Tryd.prog w = .ok ((g c).getD (.bool false)) w := h.look twoK Tryd.underlying109 (zeroB w) hc false
def gK (L : List Air) (c : ByteArray) : Option Value := if L.any (fun b => decide (b.city = c)) then some (.bool true) else none
theorem gK_put (L : List Air) (a : Air) : (fun c' => if c' = a.city then some (Value.bool true) else gK L c') = gK (L ++ [a]) := by
  funext c
  unfold gK
  by_cases e : c = a.city
  · subst e; simp
  · have e' : ¬ a.city = c := fun h => e h.symm
    simp [e, e']
theorem gK_get (L : List Air) (c : ByteArray) : (gK L c).getD (.bool false) = .bool (L.any fun b => decide (b.city = c)) := by
  unfold gK
  cases L.any fun b => decide (b.city = c) <;> rfl
def gQ (L : List Dst) (c : ByteArray × ByteArray) : Option Value := if L.any (fun x => decide (ordP x.f x.t = c)) then some (.bool true) else none
theorem gQ_put (L : List Dst) (d : Dst) : (fun c' => if c' = ordP d.f d.t then some (Value.bool true) else gQ L c') = gQ (L ++ [d]) := by
  funext c
  unfold gQ
  by_cases e : c = ordP d.f d.t
  · subst e; simp
  · have e' : ¬ ordP d.f d.t = c := fun h => e h.symm
    simp [e, e']
theorem gQ_get (L : List Dst) (d : Dst) : (gQ L (ordP d.f d.t)).getD (.bool false) = .bool (twB L d) := by
  rw [tw_iff]
  unfold gQ
  cases L.any fun x => decide (ordP x.f x.t = ordP d.f d.t) <;> rfl
theorem ord_size (a b : ByteArray) (ha : a.size ≤ maxLen) (hb : b.size ≤ maxLen) : (ordP a b).1.size ≤ maxLen ∧ (ordP a b).2.size ≤ maxLen := by
  unfold ordP
  split
  · exact ⟨ha, hb⟩
  · exact ⟨hb, ha⟩
theorem eq_dec (a b : ByteArray) : (a.toList == b.toList) = decide (a = b) := by
  by_cases h : a = b
  · subst h; simp
  · rw [decide_eq_false h]
    cases hh : (a.toList == b.toList) with
    | false => rfl
    | true => exact absurd ((eqS_iff a b).1 hh) h

set_option maxRecDepth 100000 in
set_option maxHeartbeats 16000000 in
theorem distances_any (p : PV) (w : World) (hp : OkP p) (hL : PlL w p) :
    Calls Tryd.prog 34 #[encP p] w fun e w' => ∃ v', e = .returned v' ∧ FOwn w.heap.size w' v' (dstF p.l p.ds p.ds.length) ∧ Below w.heap.size w w' := by
  obtain ⟨A, ca, l, D, cd, ds⟩ := p
  obtain ⟨hA, hD, hla, hld⟩ := hp
  obtain ⟨hLa, hLd⟩ := hL
  dsimp only at *
  have hmm := @run_makeMap Tryd.prog
  have b1 := bel_alloc w (.cells #[.slice A l.length ca, .slice D ds.length cd] placesT)
  have b2 := bel_alloc (w.alloc (.cells #[.slice A l.length ca, .slice D ds.length cd] placesT)) (.map #[] 0)
  have p0 := cells_new w #[.slice A l.length ca, .slice D ds.length cd] placesT 0
  have p1 := cells_new w #[.slice A l.length ca, .slice D ds.length cd] placesT 1
  simp only [List.getElem?_toArray, List.getElem?_cons_zero, List.getElem?_cons_succ] at p0 p1
  have p0 := bel_cell b2 p0
  have p1 := bel_cell b2 p1
  have m1 : MapS ((w.alloc (.cells #[.slice A l.length ca, .slice D ds.length cd] placesT)).alloc (.map #[] 0)) (w.heap.size + 1) 0 (gK (l.take 0)) := by
    have := MapK.made (w.alloc (.cells #[.slice A l.length ca, .slice D ds.length cd] placesT)) Tryd.prog 9 Value.string
    rw [World.size_alloc] at this
    exact this
  have hb0 : Below w.heap.size w ((w.alloc (.cells #[.slice A l.length ca, .slice D ds.length cd] placesT)).alloc (.map #[] 0)) := b1.alloc b1.size _
  clear b1 b2
  have HP : Hid (∀ W : World, W.heap[w.heap.size]? = ((w.alloc (.cells #[.slice A l.length ca, .slice D ds.length cd] placesT)).alloc (.map #[] 0)).heap[w.heap.size]? → W.cell? ⟨w.heap.size, 0, none⟩ = some (.slice A l.length ca) ∧ W.cell? ⟨w.heap.size, 1, none⟩ = some (.slice D ds.length cd)) :=
    Lib.hid (fun W h => ⟨(World.cell?_of_block (a := ⟨w.heap.size, 0, none⟩) h).trans p0, (World.cell?_of_block (a := ⟨w.heap.size, 1, none⟩) h).trans p1⟩)
  go_enter Tryd.func34, Tryd.ntmps34
  go_wp2
  generalize (w.alloc (.cells #[.slice A l.length ca, .slice D ds.length cd] placesT)).alloc (.map #[] 0) = w0 at *
  have hB0 : w.heap.size < w0.heap.size := World.block_lt_of_cell? _ _ p0
  go_loopw [15] (fun vi wr => ∃ (k n : Nat), k ≤ l.length ∧ vi = .int .i64 k ∧ n ≤ k ∧ Hid (MapS wr (w.heap.size + 1) n (gK (l.take k)) ∧ Below w.heap.size w wr ∧ wr.heap[w.heap.size]? = w0.heap[w.heap.size]?)) (fun vi _ => l.length - (intOf vi).toNat)
  case atStart => exact ⟨0, 0, Nat.zero_le _, rfl, Nat.le_refl _, Lib.hid ⟨m1, hb0, rfl⟩⟩
  case round =>
    obtain ⟨k, n, hk, rfl, hn, HH⟩ := hrel
    clear m1 hb0
    by_cases hlt : k < l.length
    · obtain ⟨bb, off, a, rfl, hgl, hka, ha⟩ := (hLa.more HH.out.2.1).at hlt
      obtain ⟨a0, a1, a2, a3, a4, ash⟩ := ha
      have i2 : (k : Int) < (l.length : Int) := by omega
      obtain ⟨s1, s2, s3, s4, s5⟩ := hA a (List.mem_of_getElem? hka)
      have hT := Lib.hid (show l.take (k + 1) = l.take k ++ [a] by rw [List.take_add_one, hka]; rfl)
      have hbN := bel_alloc wr (.cells #[.string a.code, .string a.city, .string a.land, .int .i64 a.off, .slice a.A a.shs.length a.c] airT)
      have hm := HH.out.1.more hbN
      have hlB := HH.out.1.lt
      clear hka
      go_wp2_with (at_mapUpdate; refine wpList_put rfl _ _ _ 104 rfl strK str_inj Tryd.underlying104 rfl hm (by unfold maxLen; omega) a.city _ rfl (str_key a.city s2) ?_; intro w9 hm9 hg9; refine Hid.out ?_)
      have hbw := HH.out.2.1
      have hbw5 := hbw.trans (hbN.mono hbw.size)
      have hb9 : Below w.heap.size w w9 := hbw5.grown hg9 hbw5.size (fun k hk => by cases hk; omega)
      have hq9 : w9.heap[w.heap.size]? = w0.heap[w.heap.size]? := (hg9.block w.heap.size (Nat.lt_of_lt_of_le (show w.heap.size < wr.heap.size by omega) hbN.size) (fun e => absurd (Option.some.inj e) (show ¬ w.heap.size = w.heap.size + 1 by omega))).trans ((hbN.block w.heap.size (show w.heap.size < wr.heap.size by omega)).trans HH.out.2.2)
      have HX := Lib.hid (show MapS w9 (w.heap.size + 1) (n + 1) (gK (l.take (k + 1))) ∧ Below w.heap.size w w9 ∧ w9.heap[w.heap.size]? = w0.heap[w.heap.size]? from ⟨by rw [hT.out, ← gK_put]; exact hm9, hb9, hq9⟩)
      refine Lib.hid ?_
      go_wp2
      go_roundw
      case rel => exact ⟨k + 1, n + 1, by omega, by go_num, by omega, HX⟩
      case measure => simp [intOf]; omega
    have hkl : k = l.length := by omega
    have hmK : MapS wr (w.heap.size + 1) n (gK l) := by have h := HH.out.1; rwa [hkl, List.take_of_length_le (Nat.le_refl _)] at h
    have hbw := HH.out.2.1
    have hq0 := HH.out.2.2
    obtain ⟨x0, x1⟩ := HP.out wr hq0
    have hbM := bel_alloc wr (.map #[] 0)
    have hsz := hmK.lt
    obtain ⟨y0, y1⟩ := HP.out (wr.alloc (.map #[] 0)) ((hbM.block _ (by omega)).trans hq0)
    have hmP : MapP (wr.alloc (.map #[] 0)) wr.heap.size 0 (gQ (ds.take 0)) := MapK.made wr _ _ _
    have HI : Hid (FOwn (wr.heap.size + 1) (wr.alloc (.map #[] 0)) (.slice none 0 0) (dstF l ds 0) ∧ MapS (wr.alloc (.map #[] 0)) (w.heap.size + 1) n (gK l) ∧ MapP (wr.alloc (.map #[] 0)) wr.heap.size 0 (gQ (ds.take 0)) ∧ Below w.heap.size w (wr.alloc (.map #[] 0))) := Lib.hid ⟨ROwn.nil (by simp), hmK.more hbM, hmP, hbw.trans (hbM.mono hbw.size)⟩
    obtain ⟨PB, hPB⟩ : ∃ PB, PB = wr.heap.size := ⟨_, rfl⟩
    have hPB1 : w.heap.size + 1 < PB := by omega
    go_wp2
    rw [← hPB] at HI ⊢
    clear hkl hPB hmK hmP hq0 x0 x1 y0 y1 hbM hbw hsz HH
    go_loopw [3, 27] (fun s3 vi W => ∃ (v : Value) (k m : Nat), v = s3 ∧ k ≤ ds.length ∧ vi = .int .i64 k ∧ m ≤ k ∧ Hid (FOwn (PB + 1) W v (dstF l ds k) ∧ MapS W (w.heap.size + 1) n (gK l) ∧ MapP W PB m (gQ (ds.take k)) ∧ Below w.heap.size w W)) (fun _ vi _ => ds.length - (intOf vi).toNat)
    case atStart => exact ⟨_, 0, 0, rfl, Nat.zero_le _, rfl, Nat.le_refl _, HI⟩
    case round =>
      obtain ⟨v, k, m, rfl, hk, rfl, hm, HJ⟩ := hrel
      clear HI
      by_cases hlt2 : k < ds.length
      · obtain ⟨bb, off, d, rfl, hgl, hkd, hd⟩ := (hLd.more HJ.out.2.2.2).at hlt2
        obtain ⟨d0, d1, d2⟩ := hd
        have i2 : (k : Int) < (ds.length : Int) := by omega
        obtain ⟨sf, st⟩ := hD d (List.mem_of_getElem? hkd)
        have hT := Lib.hid (show ds.take (k + 1) = ds.take k ++ [d] by rw [List.take_add_one, hkd]; rfl)
        have HF := Lib.hid (dstF_succ l ds k d hkd)
        have HFL : Hid ((dstF l ds k).length ≤ 1000000) := Lib.hid (by have := dstF_le l ds k; omega)
        obtain ⟨kl, hkey⟩ := key_two (ordP d.f d.t) (ord_size d.f d.t sf st).1 (ord_size d.f d.t sf st).2
        have mn : ∀ W : World, (Builtin.min_ #[9, 9] 9 #[.string d.f, .string d.t]).run Tryd.prog W = .ok (.string (ordP d.f d.t).1) W := fun W => run_min_str _ _ _ _ W
        have mx : ∀ W : World, (Builtin.max_ #[9, 9] 9 #[.string d.f, .string d.t]).run Tryd.prog W = .ok (.string (ordP d.f d.t).2) W := fun W => run_max_str _ _ _ _ W
        have HKG := Lib.hid (gQ_get (ds.take k) d)
        have HKP := Lib.hid (gQ_put (ds.take k) d)
        have hb1 := bel_alloc wr (.cells #[.string d.f, .string d.t, .int .i64 d.m] dstT)
        have hb2 := bel_alloc (wr.alloc (.cells #[.string d.f, .string d.t, .int .i64 d.m] dstT)) (.cells #[.string (ordP d.f d.t).1, .string (ordP d.f d.t).2] twoT)
        have q0 := bel_cell hb2 ((cells_new wr #[.string d.f, .string d.t, .int .i64 d.m] dstT 0).trans (show _ = some _ from rfl))
        have q1 := bel_cell hb2 ((cells_new wr #[.string d.f, .string d.t, .int .i64 d.m] dstT 1).trans (show _ = some _ from rfl))
        have q2 := bel_cell hb2 ((cells_new wr #[.string d.f, .string d.t, .int .i64 d.m] dstT 2).trans (show _ = some _ from rfl))
        have r0 := (cells_new (wr.alloc (.cells #[.string d.f, .string d.t, .int .i64 d.m] dstT)) #[.string (ordP d.f d.t).1, .string (ordP d.f d.t).2] twoT 0).trans (show _ = some _ from rfl)
        have r1 := (cells_new (wr.alloc (.cells #[.string d.f, .string d.t, .int .i64 d.m] dstT)) #[.string (ordP d.f d.t).1, .string (ordP d.f d.t).2] twoT 1).trans (show _ = some _ from rfl)
        rw [World.size_alloc] at r0 r1
        have hb12 : Below wr.heap.size wr ((wr.alloc (.cells #[.string d.f, .string d.t, .int .i64 d.m] dstT)).alloc (.cells #[.string (ordP d.f d.t).1, .string (ordP d.f d.t).2] twoT)) := hb1.trans (hb2.mono hb1.size)
        have HO6 := Lib.hid (HJ.out.1.more hb12)
        have mm1 := HJ.out.2.1.more hb12
        have mm2 := HJ.out.2.2.1.more hb12
        have hb6 := HJ.out.2.2.2.trans (hb12.mono HJ.out.2.2.2.size)
        have hPBl := HJ.out.2.2.1.lt
        have hvN : v.ownBlock ≠ some wr.heap.size := fun h => Nat.lt_irrefl _ (HJ.out.1.low h).2
        have hvM : v.ownBlock ≠ some (wr.heap.size + 1) := fun h => by have := (HJ.out.1.low h).2; omega
        have hv1 : v.ownBlock ≠ some (w.heap.size + 1) := fun h => by have := (HJ.out.1.low h).1; omega
        have hv2 : v.ownBlock ≠ some PB := fun h => by have := (HJ.out.1.low h).1; omega
        have HEq : Hid (dstE l (ds.take k) d = [if (l.any (fun b => decide (b.city = d.f)) && l.any (fun b => decide (b.city = d.t))) = true then 0 else 14, if twB (ds.take k) d = true then (6 : Int) else 0, if (useB d && !decide (d.f = d.t)) = true then 0 else 2]) := Lib.hid rfl
        have HED := Lib.hid (eq_dec d.f d.t)
        clear hb1 hb2 hb12 HJ hkd hLd
        go_wp2
        clear mn mx d0 d1 d2
        generalize (wr.alloc (.cells #[.string d.f, .string d.t, .int .i64 d.m] dstT)).alloc (.cells #[.string (ordP d.f d.t).1, .string (ordP d.f d.t).2] twoT) = w6 at *
        have f0 : ∀ W, SX w6 v W → W.cell? ⟨wr.heap.size, 0, none⟩ = some (.string d.f) := fun W h => SX.cell q0 hvN h
        have f1 : ∀ W, SX w6 v W → W.cell? ⟨wr.heap.size, 1, none⟩ = some (.string d.t) := fun W h => SX.cell q1 hvN h
        have f2 : ∀ W, SX w6 v W → W.cell? ⟨wr.heap.size, 2, none⟩ = some (.int .i64 d.m) := fun W h => SX.cell q2 hvN h
        have g0 : ∀ W, SX w6 v W → W.cell? ⟨wr.heap.size + 1, 0, none⟩ = some (.string (ordP d.f d.t).1) := fun W h => SX.cell r0 hvM h
        have g1 : ∀ W, SX w6 v W → W.cell? ⟨wr.heap.size + 1, 1, none⟩ = some (.string (ordP d.f d.t).2) := fun W h => SX.cell r1 hvM h
        have lkF : ∀ W, SX w6 v W → (Instr.lookup 104 (.map (some (w.heap.size + 1))) (.string d.f) false).run Tryd.prog W = .ok (.bool (l.any fun b => decide (b.city = d.f))) W := fun W h => by rw [lookB (SX.map mm1 hv1 h) d.f sf, gK_get]
        have lkT : ∀ W, SX w6 v W → (Instr.lookup 104 (.map (some (w.heap.size + 1))) (.string d.t) false).run Tryd.prog W = .ok (.bool (l.any fun b => decide (b.city = d.t))) W := fun W h => by rw [lookB (SX.map mm1 hv1 h) d.t st, gK_get]
        have lkP : ∀ W, SX w6 v W → (Instr.lookup 109 (.map (some PB)) (.agg #[.string (ordP d.f d.t).1, .string (ordP d.f d.t).2]) false).run Tryd.prog W = .ok (.bool (twB (ds.take k) d)) W := fun W h => by
          have h := lookP (SX.map mm2 hv2 h) (ordP d.f d.t) hkey
          rw [HKG.out] at h
          exact h
        have KU := Lib.hid (fun W => usable_any d W)
        have KD := Lib.hid (dec_small k (by omega))
        have hadd : ∀ W : World, (Op.stringOp .add ⟨#[100, 105, 115, 116, 97, 110, 99, 101, 32]⟩ (decA k)).run Tryd.prog W = .ok (.string (dstW ++ decA k)) W := fun W => run_string_add_sum W _ _ (by have := decA_size k (by omega); have e : (⟨#[100, 105, 115, 116, 97, 110, 99, 101, 32]⟩ : ByteArray).size = 9 := rfl; omega)
        have HK := Lib.hid hkey
        have MM1 := Lib.hid mm1
        have MM2 := Lib.hid mm2
        have HB6 := Lib.hid hb6
        have hO := HO6.out.more ((Below.refl _ w6).drew)
        rw [HED.out.symm] at HEq
        generalize (l.any fun b => decide (b.city = d.f)) = kf at *
        generalize (l.any fun b => decide (b.city = d.t)) = kt at *
        generalize twB (ds.take k) d = tw at *
        generalize useB d = us at *
        generalize decA k = sk at *
        clear mm1 mm2 q0 q1 q2 r0 r1 hb6 HKG HED hkey
        cases kf with
        | false =>
          cases us with
          | false =>
            obtain ⟨x0, hx0⟩ : ∃ x : Int, x = (if true = true then (14 : Int) else 0) := ⟨_, rfl⟩
            obtain ⟨x1, hx1⟩ : ∃ x : Int, x = (if tw = true then (6 : Int) else 0) := ⟨_, rfl⟩
            obtain ⟨x2, hx2⟩ : ∃ x : Int, x = (if true = true then (2 : Int) else 0) := ⟨_, rfl⟩
            have KW0 := Lib.hid (fun W => fwhen_any true 14 W)
            have KW1 := Lib.hid (fun W => fwhen_any tw 6 W)
            have KW2 : Hid (∀ W, Calls Tryd.prog 47 #[.bool true, .int .i64 2] W fun r w' => r = .returned (.int .i64 x2) ∧ Below W.heap.size W w') := Lib.hid (fun W => (fwhen_any true 2 W).mono (by rintro r w' ⟨rfl, rfl⟩; exact ⟨by rw [hx2], Below.refl _ _⟩))
            have HEr : Hid (dstE l (ds.take k) d = [x0, x1, x2]) := Lib.hid (by rw [HEq.out, hx0, hx1, hx2] <;> rfl)
            rw [← hx0] at KW0
            rw [← hx1] at KW1
            clear hx0 hx1 hx2 HEq
            have hS : (SX w6 v) _ := But.of_below (Below.refl _ _).drew
            refine wp_region_held_drew (S := SX w6 v) (by kernel_rfl) hS (fun _ => ?_)
            refine wpAnyH_take (i := 0) (v := ?vD000) rfl (by kernel_rfl) (by kernel_rfl) (by kernel_rfl) (fun _ _ _ h => h) (Or.inl ⟨by rfl, ?hyD000⟩) hS ?restD000
            case hyD000 =>
              intro w hSw
              first | (go_simp; done) | (go_simp; with_reducible rfl)
            try simp only [Act.put, List.setIfInBounds_toArray, List.set_cons_zero, List.set_cons_succ]
            refine wpAnyH_take (i := 1) (v := ?vD001) rfl (by kernel_rfl) (by kernel_rfl) (by kernel_rfl) (fun _ _ _ h => h) (Or.inl ⟨by rfl, ?hyD001⟩) hS ?restD001
            case hyD001 =>
              intro w hSw
              first | (go_simp; done) | (go_simp; with_reducible rfl)
            try simp only [Act.put, List.setIfInBounds_toArray, List.set_cons_zero, List.set_cons_succ]
            refine wpAnyH_take (i := 4) (v := ?vD004) rfl (by kernel_rfl) (by kernel_rfl) (by kernel_rfl) (fun _ _ _ h => h) (Or.inl ⟨by rfl, ?hyD004⟩) hS ?restD004
            case hyD004 =>
              intro w hSw
              first | (go_simp; done) | (go_simp; with_reducible rfl)
            try simp only [Act.put, List.setIfInBounds_toArray, List.set_cons_zero, List.set_cons_succ]
            refine wpAnyH_take (i := 5) (v := ?vD005) rfl (by kernel_rfl) (by kernel_rfl) (by kernel_rfl) (fun _ _ _ h => h) (Or.inl ⟨by rfl, ?hyD005⟩) hS ?restD005
            case hyD005 =>
              intro w hSw
              first | (go_simp; done) | (go_simp; with_reducible rfl)
            try simp only [Act.put, List.setIfInBounds_toArray, List.set_cons_zero, List.set_cons_succ]
            refine wpAnyH_take (i := 6) (v := ?vD006) rfl (by kernel_rfl) (by kernel_rfl) (by kernel_rfl) (fun _ _ _ h => h) (Or.inl ⟨by rfl, ?hyD006⟩) hS ?restD006
            case hyD006 =>
              intro w hSw
              have k0 := f0 w hSw; have k1 := f1 w hSw; have k2 := f2 w hSw; have k3 := g0 w hSw; have k4 := g1 w hSw; have k5 := lkF w hSw; have k6 := lkT w hSw; have k7 := lkP w hSw
              first | (go_simp; done) | (go_simp; with_reducible rfl)
            try simp only [Act.put, List.setIfInBounds_toArray, List.set_cons_zero, List.set_cons_succ]
            refine wpAnyH_take (i := 7) (v := ?vD007) rfl (by kernel_rfl) (by kernel_rfl) (by kernel_rfl) (fun _ _ _ h => h) (Or.inl ⟨by rfl, ?hyD007⟩) hS ?restD007
            case hyD007 =>
              intro w hSw
              have k0 := f0 w hSw; have k1 := f1 w hSw; have k2 := f2 w hSw; have k3 := g0 w hSw; have k4 := g1 w hSw; have k5 := lkF w hSw; have k6 := lkT w hSw; have k7 := lkP w hSw
              first | (go_simp; done) | (go_simp; with_reducible rfl)
            try simp only [Act.put, List.setIfInBounds_toArray, List.set_cons_zero, List.set_cons_succ]
            refine wpAnyH_take (i := 8) (v := ?vD008) rfl (by kernel_rfl) (by kernel_rfl) (by kernel_rfl) (fun _ _ _ h => h) (Or.inl ⟨by rfl, ?hyD008⟩) hS ?restD008
            case hyD008 =>
              intro w hSw
              first | (go_simp; done) | (go_simp; with_reducible rfl)
            try simp only [Act.put, List.setIfInBounds_toArray, List.set_cons_zero, List.set_cons_succ]
            refine wpAnyH_take (i := 17) (v := ?vD0017) rfl (by kernel_rfl) (by kernel_rfl) (by kernel_rfl) (fun _ _ _ h => h) (Or.inl ⟨by rfl, ?hyD0017⟩) hS ?restD0017
            case hyD0017 =>
              intro w hSw
              first | (go_simp; done) | (go_simp; with_reducible rfl)
            try simp only [Act.put, List.setIfInBounds_toArray, List.set_cons_zero, List.set_cons_succ]
            refine wpAnyH_take (i := 18) (v := ?vD0018) rfl (by kernel_rfl) (by kernel_rfl) (by kernel_rfl) (fun _ _ _ h => h) (Or.inl ⟨by rfl, ?hyD0018⟩) hS ?restD0018
            case hyD0018 =>
              intro w hSw
              have k0 := f0 w hSw; have k1 := f1 w hSw; have k2 := f2 w hSw; have k3 := g0 w hSw; have k4 := g1 w hSw; have k5 := lkF w hSw; have k6 := lkT w hSw; have k7 := lkP w hSw
              first | (go_simp; done) | (go_simp; with_reducible rfl)
            try simp only [Act.put, List.setIfInBounds_toArray, List.set_cons_zero, List.set_cons_succ]
            refine wpAnyH_take (i := 19) (v := ?vD0019) rfl (by kernel_rfl) (by kernel_rfl) (by kernel_rfl) (fun _ _ _ h => h) (Or.inl ⟨by rfl, ?hyD0019⟩) hS ?restD0019
            case hyD0019 =>
              intro w hSw
              have k0 := f0 w hSw; have k1 := f1 w hSw; have k2 := f2 w hSw; have k3 := g0 w hSw; have k4 := g1 w hSw; have k5 := lkF w hSw; have k6 := lkT w hSw; have k7 := lkP w hSw
              first | (go_simp; done) | (go_simp; with_reducible rfl)
            try simp only [Act.put, List.setIfInBounds_toArray, List.set_cons_zero, List.set_cons_succ]
            refine wpAnyH_take (i := 21) (v := ?vD0021) rfl (by kernel_rfl) (by kernel_rfl) (by kernel_rfl) (fun _ _ _ h => h) (Or.inl ⟨by rfl, ?hyD0021⟩) hS ?restD0021
            case hyD0021 =>
              intro w hSw
              have k0 := f0 w hSw; have k1 := f1 w hSw; have k2 := f2 w hSw; have k3 := g0 w hSw; have k4 := g1 w hSw; have k5 := lkF w hSw; have k6 := lkT w hSw; have k7 := lkP w hSw
              first | (go_simp; done) | (go_simp; with_reducible rfl)
            try simp only [Act.put, List.setIfInBounds_toArray, List.set_cons_zero, List.set_cons_succ]
            refine wpAnyH_ready (rs := [2]) (by kernel_rfl) (by simp) ?_
            refine AllReadyH.cons rfl (fun K hK => ?_) AllReadyH.nil
            go_simp
            go_wp2_with ((go_at_call 52; refine (KD.out _).mono ?_; rintro e w' ⟨rfl, rfl⟩))
            refine hK.out _ _ hS (fun _ => ?_)
            clear hK K
            refine wpAnyH_take (i := 3) (v := ?vD003) rfl (by kernel_rfl) (by kernel_rfl) (by kernel_rfl) (fun _ _ _ h => h) (Or.inl ⟨by rfl, ?hyD003⟩) hS ?restD003
            case hyD003 =>
              intro w hSw
              have kadd := hadd w
              first | (go_simp; done) | (go_simp; with_reducible rfl)
            try simp only [Act.put, List.setIfInBounds_toArray, List.set_cons_zero, List.set_cons_succ]
            refine wpAnyH_take (i := 9) (v := ?vD009) rfl (by kernel_rfl) (by kernel_rfl) (by kernel_rfl) (fun _ _ _ h => h) (Or.inl ⟨by rfl, ?hyD009⟩) hS ?restD009
            case hyD009 =>
              intro w hSw
              first | (go_simp; done) | (go_simp; with_reducible rfl)
            try simp only [Act.put, List.setIfInBounds_toArray, List.set_cons_zero, List.set_cons_succ]
            refine wpAnyH_take (i := 10) (v := undef) rfl (by kernel_rfl) (by kernel_rfl) (by kernel_rfl) (fun _ _ _ h => h) (Or.inr ⟨by kernel_rfl, rfl⟩) hS ?_
            try simp only [Act.put, List.setIfInBounds_toArray, List.set_cons_zero, List.set_cons_succ]
            refine wpAnyH_take (i := 11) (v := undef) rfl (by kernel_rfl) (by kernel_rfl) (by kernel_rfl) (fun _ _ _ h => h) (Or.inr ⟨by kernel_rfl, rfl⟩) hS ?_
            try simp only [Act.put, List.setIfInBounds_toArray, List.set_cons_zero, List.set_cons_succ]
            refine wpAnyH_take (i := 12) (v := undef) rfl (by kernel_rfl) (by kernel_rfl) (by kernel_rfl) (fun _ _ _ h => h) (Or.inr ⟨by kernel_rfl, rfl⟩) hS ?_
            try simp only [Act.put, List.setIfInBounds_toArray, List.set_cons_zero, List.set_cons_succ]
            refine wpAnyH_take (i := 13) (v := undef) rfl (by kernel_rfl) (by kernel_rfl) (by kernel_rfl) (fun _ _ _ h => h) (Or.inr ⟨by kernel_rfl, rfl⟩) hS ?_
            try simp only [Act.put, List.setIfInBounds_toArray, List.set_cons_zero, List.set_cons_succ]
            refine wpAnyH_take (i := 14) (v := undef) rfl (by kernel_rfl) (by kernel_rfl) (by kernel_rfl) (fun _ _ _ h => h) (Or.inr ⟨by kernel_rfl, rfl⟩) hS ?_
            try simp only [Act.put, List.setIfInBounds_toArray, List.set_cons_zero, List.set_cons_succ]
            refine wpAnyH_take (i := 15) (v := ?vD0015) rfl (by kernel_rfl) (by kernel_rfl) (by kernel_rfl) (fun _ _ _ h => h) (Or.inl ⟨by rfl, ?hyD0015⟩) hS ?restD0015
            case hyD0015 =>
              intro w hSw
              first | (go_simp; done) | (go_simp; with_reducible rfl)
            try simp only [Act.put, List.setIfInBounds_toArray, List.set_cons_zero, List.set_cons_succ]
            refine wpAnyH_ready (rs := [16]) (by kernel_rfl) (by simp) ?_
            refine AllReadyH.cons rfl (fun K hK => ?_) AllReadyH.nil
            go_simp
            go_wp2_with ((go_at_call 47; refine (KW0.out _).mono ?_; rintro e w' ⟨rfl, rfl⟩))
            refine hK.out _ _ hS (fun _ => ?_)
            clear hK K
            refine wpAnyH_ready (rs := [20]) (by kernel_rfl) (by simp) ?_
            refine AllReadyH.cons rfl (fun K hK => ?_) AllReadyH.nil
            go_simp
            go_wp2_with ((go_at_call 47; refine (KW1.out _).mono ?_; rintro e w' ⟨rfl, rfl⟩))
            refine hK.out _ _ hS (fun _ => ?_)
            clear hK K
            refine wpAnyH_ready (rs := [22]) (by kernel_rfl) (by simp) ?_
            refine AllReadyH.cons rfl (fun K hK => ?_) AllReadyH.nil
            go_simp
            go_wp2_with ((go_at_call 67; refine (KU.out _).mono ?_; rintro e w' ⟨rfl, hb'⟩; have hO := hO.more hb'; have hS := hS.on hb'))
            refine hK.out _ _ hS (fun _ => ?_)
            clear hK K
            refine wpAnyH_take (i := 23) (v := ?vD0023) rfl (by kernel_rfl) (by kernel_rfl) (by kernel_rfl) (fun _ _ _ h => h) (Or.inl ⟨by rfl, ?hyD0023⟩) hS ?restD0023
            case hyD0023 =>
              intro w hSw
              first | (go_simp; done) | (go_simp; with_reducible rfl)
            try simp only [Act.put, List.setIfInBounds_toArray, List.set_cons_zero, List.set_cons_succ]
            refine wpAnyH_take (i := 24) (v := ?vD0024) rfl (by kernel_rfl) (by kernel_rfl) (by kernel_rfl) (fun _ _ _ h => h) (Or.inl ⟨by rfl, ?hyD0024⟩) hS ?restD0024
            case hyD0024 =>
              intro w hSw
              first | (go_simp; done) | (go_simp; with_reducible rfl)
            try simp only [Act.put, List.setIfInBounds_toArray, List.set_cons_zero, List.set_cons_succ]
            refine wpAnyH_take (i := 25) (v := undef) rfl (by kernel_rfl) (by kernel_rfl) (by kernel_rfl) (fun _ _ _ h => h) (Or.inr ⟨by kernel_rfl, rfl⟩) hS ?_
            try simp only [Act.put, List.setIfInBounds_toArray, List.set_cons_zero, List.set_cons_succ]
            refine wpAnyH_take (i := 26) (v := undef) rfl (by kernel_rfl) (by kernel_rfl) (by kernel_rfl) (fun _ _ _ h => h) (Or.inr ⟨by kernel_rfl, rfl⟩) hS ?_
            try simp only [Act.put, List.setIfInBounds_toArray, List.set_cons_zero, List.set_cons_succ]
            refine wpAnyH_take (i := 27) (v := undef) rfl (by kernel_rfl) (by kernel_rfl) (by kernel_rfl) (fun _ _ _ h => h) (Or.inr ⟨by kernel_rfl, rfl⟩) hS ?_
            try simp only [Act.put, List.setIfInBounds_toArray, List.set_cons_zero, List.set_cons_succ]
            refine wpAnyH_take (i := 28) (v := undef) rfl (by kernel_rfl) (by kernel_rfl) (by kernel_rfl) (fun _ _ _ h => h) (Or.inr ⟨by kernel_rfl, rfl⟩) hS ?_
            try simp only [Act.put, List.setIfInBounds_toArray, List.set_cons_zero, List.set_cons_succ]
            refine wpAnyH_take (i := 29) (v := undef) rfl (by kernel_rfl) (by kernel_rfl) (by kernel_rfl) (fun _ _ _ h => h) (Or.inr ⟨by kernel_rfl, rfl⟩) hS ?_
            try simp only [Act.put, List.setIfInBounds_toArray, List.set_cons_zero, List.set_cons_succ]
            refine wpAnyH_take (i := 30) (v := ?vD0030) rfl (by kernel_rfl) (by kernel_rfl) (by kernel_rfl) (fun _ _ _ h => h) (Or.inl ⟨by rfl, ?hyD0030⟩) hS ?restD0030
            case hyD0030 =>
              intro w hSw
              first | (go_simp; done) | (go_simp; with_reducible rfl)
            try simp only [Act.put, List.setIfInBounds_toArray, List.set_cons_zero, List.set_cons_succ]
            refine wpAnyH_ready (rs := [31]) (by kernel_rfl) (by simp) ?_
            refine AllReadyH.cons rfl (fun K hK => ?_) AllReadyH.nil
            go_simp
            go_wp2_with ((go_at_call 47; refine (KW2.out _).mono ?_; rintro e w' ⟨rfl, hb'⟩; have hO := hO.more hb'; have hS := hS.on hb'))
            refine hK.out _ _ hS (fun _ => ?_)
            clear hK K
            refine wpAnyH_ready (rs := [32]) (by kernel_rfl) (by simp) ?_
            refine AllReadyH.cons rfl (fun K hK => ?_) AllReadyH.nil
            go_simp
            have hNv : v.ownBlock ≠ some w'.heap.size := fun h => Nat.lt_irrefl _ (hO.low h).2
            have hO := hO.alloc (.cells #[.int .i64 x0, .int .i64 x1, .int .i64 x2] errT)
            have hS := hS.on (bel_alloc _ (.cells #[.int .i64 x0, .int .i64 x1, .int .i64 x2] errT))
            refine hK.out _ _ hS (fun _ => ?_)
            clear hK K
            refine wpAnyH_ready (rs := [33]) (by kernel_rfl) (by simp) ?_
            refine AllReadyH.cons rfl (fun K hK => ?_) AllReadyH.nil
            go_simp
            go_wp2_with ((go_at_call 46; refine (fadd_any _ v _ _ w'.heap.size 3 3 [x0, x1, x2] _ hO rfl (by omega) (errs_new w' _ rfl) hNv HFL.out).mono ?_; rintro e w8 ⟨v8, rfl, hO8, hC8⟩; have hS := hS.trans hC8.but (fun _ _ h => h)))
            refine hK.out _ _ hS (fun _ => ?_)
            clear hK K
            refine wpAnyH_take (i := 34) (v := ?vD0034) rfl (by kernel_rfl) (by kernel_rfl) (by kernel_rfl) (fun _ _ _ h => h) (Or.inl ⟨by rfl, ?hyD0034⟩) hS ?restD0034
            case hyD0034 =>
              intro w hSw
              first | (go_simp; done) | (go_simp; with_reducible rfl)
            try simp only [Act.put, List.setIfInBounds_toArray, List.set_cons_zero, List.set_cons_succ]
            refine wpAnyH_done (by kernel_rfl) ?_ _
            have y0 := g0 _ hS
            have y1 := g1 _ hS
            have hm9 := SX.map MM2.out hv2 hS
            have hB12 : w.heap.size + 1 ≠ PB := by omega
            have hwPB : w.heap.size ≤ PB := by omega
            go_wp2_with (at_mapUpdate; refine wpList_put (en := enT) rfl _ _ _ 109 rfl twoK enT_inj Tryd.underlying109 rfl hm9 (by unfold maxLen; omega) (ordP d.f d.t) _ rfl HK.out ?_; intro w9 hm9 hg9; refine Hid.out ?_)
            have hb8 : Below w.heap.size w w8 := HB6.out.trans (hS.below HB6.out.size (fun k hk hv => by have := (HO6.out.low hv).1; omega))
            have hb9 : Below w.heap.size w w9 := hb8.grown hg9 hb8.size (fun k hk => by cases hk; exact hwPB)
            have HX : Hid (FOwn (PB + 1) w9 v8 (dstF l ds (k + 1)) ∧ MapS w9 (w.heap.size + 1) n (gK l) ∧ MapP w9 PB (m + 1) (gQ (ds.take (k + 1))) ∧ Below w.heap.size w w9) := Lib.hid ⟨by
                rw [HF.out, HEr.out]
                exact hO8.grown hg9 (.inl (fun e => by have := (hO8.low e.symm).1; omega)), (SX.map MM1.out hv1 hS).grown hg9 (fun e => hB12 (Option.some.inj e)), by rw [hT.out, ← HKP.out]; exact hm9, hb9⟩
            clear hm9 hg9 hb9 hb8 hO8 hC8 hS hO
            refine Lib.hid ?_
            go_wp2
            go_roundw
            case rel => exact ⟨_, k + 1, m + 1, rfl, by omega, by go_num, by omega, HX⟩
            case measure => simp [intOf]; omega
          | true =>
            obtain ⟨x0, hx0⟩ : ∃ x : Int, x = (if true = true then (14 : Int) else 0) := ⟨_, rfl⟩
            obtain ⟨x1, hx1⟩ : ∃ x : Int, x = (if tw = true then (6 : Int) else 0) := ⟨_, rfl⟩
            obtain ⟨x2, hx2⟩ : ∃ x : Int, x = (if (d.f.toList == d.t.toList) = true then (2 : Int) else 0) := ⟨_, rfl⟩
            have KW0 := Lib.hid (fun W => fwhen_any true 14 W)
            have KW1 := Lib.hid (fun W => fwhen_any tw 6 W)
            have KW2 : Hid (∀ W, Calls Tryd.prog 47 #[.bool (d.f.toList == d.t.toList), .int .i64 2] W fun r w' => r = .returned (.int .i64 x2) ∧ Below W.heap.size W w') := Lib.hid (fun W => (fwhen_any (d.f.toList == d.t.toList) 2 W).mono (by rintro r w' ⟨rfl, rfl⟩; exact ⟨by rw [hx2], Below.refl _ _⟩))
            have HEr : Hid (dstE l (ds.take k) d = [x0, x1, x2]) := Lib.hid (by rw [HEq.out, hx0, hx1, hx2]; cases (d.f.toList == d.t.toList) <;> rfl)
            rw [← hx0] at KW0
            rw [← hx1] at KW1
            clear hx0 hx1 hx2 HEq
            have hS : (SX w6 v) _ := But.of_below (Below.refl _ _).drew
            refine wp_region_held_drew (S := SX w6 v) (by kernel_rfl) hS (fun _ => ?_)
            refine wpAnyH_take (i := 0) (v := ?vD010) rfl (by kernel_rfl) (by kernel_rfl) (by kernel_rfl) (fun _ _ _ h => h) (Or.inl ⟨by rfl, ?hyD010⟩) hS ?restD010
            case hyD010 =>
              intro w hSw
              first | (go_simp; done) | (go_simp; with_reducible rfl)
            try simp only [Act.put, List.setIfInBounds_toArray, List.set_cons_zero, List.set_cons_succ]
            refine wpAnyH_take (i := 1) (v := ?vD011) rfl (by kernel_rfl) (by kernel_rfl) (by kernel_rfl) (fun _ _ _ h => h) (Or.inl ⟨by rfl, ?hyD011⟩) hS ?restD011
            case hyD011 =>
              intro w hSw
              first | (go_simp; done) | (go_simp; with_reducible rfl)
            try simp only [Act.put, List.setIfInBounds_toArray, List.set_cons_zero, List.set_cons_succ]
            refine wpAnyH_take (i := 4) (v := ?vD014) rfl (by kernel_rfl) (by kernel_rfl) (by kernel_rfl) (fun _ _ _ h => h) (Or.inl ⟨by rfl, ?hyD014⟩) hS ?restD014
            case hyD014 =>
              intro w hSw
              first | (go_simp; done) | (go_simp; with_reducible rfl)
            try simp only [Act.put, List.setIfInBounds_toArray, List.set_cons_zero, List.set_cons_succ]
            refine wpAnyH_take (i := 5) (v := ?vD015) rfl (by kernel_rfl) (by kernel_rfl) (by kernel_rfl) (fun _ _ _ h => h) (Or.inl ⟨by rfl, ?hyD015⟩) hS ?restD015
            case hyD015 =>
              intro w hSw
              first | (go_simp; done) | (go_simp; with_reducible rfl)
            try simp only [Act.put, List.setIfInBounds_toArray, List.set_cons_zero, List.set_cons_succ]
            refine wpAnyH_take (i := 6) (v := ?vD016) rfl (by kernel_rfl) (by kernel_rfl) (by kernel_rfl) (fun _ _ _ h => h) (Or.inl ⟨by rfl, ?hyD016⟩) hS ?restD016
            case hyD016 =>
              intro w hSw
              have k0 := f0 w hSw; have k1 := f1 w hSw; have k2 := f2 w hSw; have k3 := g0 w hSw; have k4 := g1 w hSw; have k5 := lkF w hSw; have k6 := lkT w hSw; have k7 := lkP w hSw
              first | (go_simp; done) | (go_simp; with_reducible rfl)
            try simp only [Act.put, List.setIfInBounds_toArray, List.set_cons_zero, List.set_cons_succ]
            refine wpAnyH_take (i := 7) (v := ?vD017) rfl (by kernel_rfl) (by kernel_rfl) (by kernel_rfl) (fun _ _ _ h => h) (Or.inl ⟨by rfl, ?hyD017⟩) hS ?restD017
            case hyD017 =>
              intro w hSw
              have k0 := f0 w hSw; have k1 := f1 w hSw; have k2 := f2 w hSw; have k3 := g0 w hSw; have k4 := g1 w hSw; have k5 := lkF w hSw; have k6 := lkT w hSw; have k7 := lkP w hSw
              first | (go_simp; done) | (go_simp; with_reducible rfl)
            try simp only [Act.put, List.setIfInBounds_toArray, List.set_cons_zero, List.set_cons_succ]
            refine wpAnyH_take (i := 8) (v := ?vD018) rfl (by kernel_rfl) (by kernel_rfl) (by kernel_rfl) (fun _ _ _ h => h) (Or.inl ⟨by rfl, ?hyD018⟩) hS ?restD018
            case hyD018 =>
              intro w hSw
              first | (go_simp; done) | (go_simp; with_reducible rfl)
            try simp only [Act.put, List.setIfInBounds_toArray, List.set_cons_zero, List.set_cons_succ]
            refine wpAnyH_take (i := 17) (v := ?vD0117) rfl (by kernel_rfl) (by kernel_rfl) (by kernel_rfl) (fun _ _ _ h => h) (Or.inl ⟨by rfl, ?hyD0117⟩) hS ?restD0117
            case hyD0117 =>
              intro w hSw
              first | (go_simp; done) | (go_simp; with_reducible rfl)
            try simp only [Act.put, List.setIfInBounds_toArray, List.set_cons_zero, List.set_cons_succ]
            refine wpAnyH_take (i := 18) (v := ?vD0118) rfl (by kernel_rfl) (by kernel_rfl) (by kernel_rfl) (fun _ _ _ h => h) (Or.inl ⟨by rfl, ?hyD0118⟩) hS ?restD0118
            case hyD0118 =>
              intro w hSw
              have k0 := f0 w hSw; have k1 := f1 w hSw; have k2 := f2 w hSw; have k3 := g0 w hSw; have k4 := g1 w hSw; have k5 := lkF w hSw; have k6 := lkT w hSw; have k7 := lkP w hSw
              first | (go_simp; done) | (go_simp; with_reducible rfl)
            try simp only [Act.put, List.setIfInBounds_toArray, List.set_cons_zero, List.set_cons_succ]
            refine wpAnyH_take (i := 19) (v := ?vD0119) rfl (by kernel_rfl) (by kernel_rfl) (by kernel_rfl) (fun _ _ _ h => h) (Or.inl ⟨by rfl, ?hyD0119⟩) hS ?restD0119
            case hyD0119 =>
              intro w hSw
              have k0 := f0 w hSw; have k1 := f1 w hSw; have k2 := f2 w hSw; have k3 := g0 w hSw; have k4 := g1 w hSw; have k5 := lkF w hSw; have k6 := lkT w hSw; have k7 := lkP w hSw
              first | (go_simp; done) | (go_simp; with_reducible rfl)
            try simp only [Act.put, List.setIfInBounds_toArray, List.set_cons_zero, List.set_cons_succ]
            refine wpAnyH_take (i := 21) (v := ?vD0121) rfl (by kernel_rfl) (by kernel_rfl) (by kernel_rfl) (fun _ _ _ h => h) (Or.inl ⟨by rfl, ?hyD0121⟩) hS ?restD0121
            case hyD0121 =>
              intro w hSw
              have k0 := f0 w hSw; have k1 := f1 w hSw; have k2 := f2 w hSw; have k3 := g0 w hSw; have k4 := g1 w hSw; have k5 := lkF w hSw; have k6 := lkT w hSw; have k7 := lkP w hSw
              first | (go_simp; done) | (go_simp; with_reducible rfl)
            try simp only [Act.put, List.setIfInBounds_toArray, List.set_cons_zero, List.set_cons_succ]
            refine wpAnyH_ready (rs := [2]) (by kernel_rfl) (by simp) ?_
            refine AllReadyH.cons rfl (fun K hK => ?_) AllReadyH.nil
            go_simp
            go_wp2_with ((go_at_call 52; refine (KD.out _).mono ?_; rintro e w' ⟨rfl, rfl⟩))
            refine hK.out _ _ hS (fun _ => ?_)
            clear hK K
            refine wpAnyH_take (i := 3) (v := ?vD013) rfl (by kernel_rfl) (by kernel_rfl) (by kernel_rfl) (fun _ _ _ h => h) (Or.inl ⟨by rfl, ?hyD013⟩) hS ?restD013
            case hyD013 =>
              intro w hSw
              have kadd := hadd w
              first | (go_simp; done) | (go_simp; with_reducible rfl)
            try simp only [Act.put, List.setIfInBounds_toArray, List.set_cons_zero, List.set_cons_succ]
            refine wpAnyH_take (i := 9) (v := ?vD019) rfl (by kernel_rfl) (by kernel_rfl) (by kernel_rfl) (fun _ _ _ h => h) (Or.inl ⟨by rfl, ?hyD019⟩) hS ?restD019
            case hyD019 =>
              intro w hSw
              first | (go_simp; done) | (go_simp; with_reducible rfl)
            try simp only [Act.put, List.setIfInBounds_toArray, List.set_cons_zero, List.set_cons_succ]
            refine wpAnyH_take (i := 10) (v := undef) rfl (by kernel_rfl) (by kernel_rfl) (by kernel_rfl) (fun _ _ _ h => h) (Or.inr ⟨by kernel_rfl, rfl⟩) hS ?_
            try simp only [Act.put, List.setIfInBounds_toArray, List.set_cons_zero, List.set_cons_succ]
            refine wpAnyH_take (i := 11) (v := undef) rfl (by kernel_rfl) (by kernel_rfl) (by kernel_rfl) (fun _ _ _ h => h) (Or.inr ⟨by kernel_rfl, rfl⟩) hS ?_
            try simp only [Act.put, List.setIfInBounds_toArray, List.set_cons_zero, List.set_cons_succ]
            refine wpAnyH_take (i := 12) (v := undef) rfl (by kernel_rfl) (by kernel_rfl) (by kernel_rfl) (fun _ _ _ h => h) (Or.inr ⟨by kernel_rfl, rfl⟩) hS ?_
            try simp only [Act.put, List.setIfInBounds_toArray, List.set_cons_zero, List.set_cons_succ]
            refine wpAnyH_take (i := 13) (v := undef) rfl (by kernel_rfl) (by kernel_rfl) (by kernel_rfl) (fun _ _ _ h => h) (Or.inr ⟨by kernel_rfl, rfl⟩) hS ?_
            try simp only [Act.put, List.setIfInBounds_toArray, List.set_cons_zero, List.set_cons_succ]
            refine wpAnyH_take (i := 14) (v := undef) rfl (by kernel_rfl) (by kernel_rfl) (by kernel_rfl) (fun _ _ _ h => h) (Or.inr ⟨by kernel_rfl, rfl⟩) hS ?_
            try simp only [Act.put, List.setIfInBounds_toArray, List.set_cons_zero, List.set_cons_succ]
            refine wpAnyH_take (i := 15) (v := ?vD0115) rfl (by kernel_rfl) (by kernel_rfl) (by kernel_rfl) (fun _ _ _ h => h) (Or.inl ⟨by rfl, ?hyD0115⟩) hS ?restD0115
            case hyD0115 =>
              intro w hSw
              first | (go_simp; done) | (go_simp; with_reducible rfl)
            try simp only [Act.put, List.setIfInBounds_toArray, List.set_cons_zero, List.set_cons_succ]
            refine wpAnyH_ready (rs := [16]) (by kernel_rfl) (by simp) ?_
            refine AllReadyH.cons rfl (fun K hK => ?_) AllReadyH.nil
            go_simp
            go_wp2_with ((go_at_call 47; refine (KW0.out _).mono ?_; rintro e w' ⟨rfl, rfl⟩))
            refine hK.out _ _ hS (fun _ => ?_)
            clear hK K
            refine wpAnyH_ready (rs := [20]) (by kernel_rfl) (by simp) ?_
            refine AllReadyH.cons rfl (fun K hK => ?_) AllReadyH.nil
            go_simp
            go_wp2_with ((go_at_call 47; refine (KW1.out _).mono ?_; rintro e w' ⟨rfl, rfl⟩))
            refine hK.out _ _ hS (fun _ => ?_)
            clear hK K
            refine wpAnyH_ready (rs := [22]) (by kernel_rfl) (by simp) ?_
            refine AllReadyH.cons rfl (fun K hK => ?_) AllReadyH.nil
            go_simp
            go_wp2_with ((go_at_call 67; refine (KU.out _).mono ?_; rintro e w' ⟨rfl, hb'⟩; have hO := hO.more hb'; have hS := hS.on hb'))
            refine hK.out _ _ hS (fun _ => ?_)
            clear hK K
            refine wpAnyH_take (i := 23) (v := ?vD0123) rfl (by kernel_rfl) (by kernel_rfl) (by kernel_rfl) (fun _ _ _ h => h) (Or.inl ⟨by rfl, ?hyD0123⟩) hS ?restD0123
            case hyD0123 =>
              intro w hSw
              first | (go_simp; done) | (go_simp; with_reducible rfl)
            try simp only [Act.put, List.setIfInBounds_toArray, List.set_cons_zero, List.set_cons_succ]
            refine wpAnyH_take (i := 24) (v := ?vD0124) rfl (by kernel_rfl) (by kernel_rfl) (by kernel_rfl) (fun _ _ _ h => h) (Or.inl ⟨by rfl, ?hyD0124⟩) hS ?restD0124
            case hyD0124 =>
              intro w hSw
              first | (go_simp; done) | (go_simp; with_reducible rfl)
            try simp only [Act.put, List.setIfInBounds_toArray, List.set_cons_zero, List.set_cons_succ]
            refine wpAnyH_take (i := 25) (v := ?vD0125) rfl (by kernel_rfl) (by kernel_rfl) (by kernel_rfl) (fun _ _ _ h => h) (Or.inl ⟨by kernel_rfl, ?hyD0125⟩) hS ?restD0125
            case hyD0125 =>
              intro w hSw
              first | (go_simp; done) | (go_simp; with_reducible rfl)
            try simp only [Act.put, List.setIfInBounds_toArray, List.set_cons_zero, List.set_cons_succ]
            refine wpAnyH_take (i := 26) (v := ?vD0126) rfl (by kernel_rfl) (by kernel_rfl) (by kernel_rfl) (fun _ _ _ h => h) (Or.inl ⟨by kernel_rfl, ?hyD0126⟩) hS ?restD0126
            case hyD0126 =>
              intro w hSw
              have k0 := f0 w hSw; have k1 := f1 w hSw; have k2 := f2 w hSw; have k3 := g0 w hSw; have k4 := g1 w hSw; have k5 := lkF w hSw; have k6 := lkT w hSw; have k7 := lkP w hSw
              first | (go_simp; done) | (go_simp; with_reducible rfl)
            try simp only [Act.put, List.setIfInBounds_toArray, List.set_cons_zero, List.set_cons_succ]
            refine wpAnyH_take (i := 27) (v := ?vD0127) rfl (by kernel_rfl) (by kernel_rfl) (by kernel_rfl) (fun _ _ _ h => h) (Or.inl ⟨by kernel_rfl, ?hyD0127⟩) hS ?restD0127
            case hyD0127 =>
              intro w hSw
              first | (go_simp; done) | (go_simp; with_reducible rfl)
            try simp only [Act.put, List.setIfInBounds_toArray, List.set_cons_zero, List.set_cons_succ]
            refine wpAnyH_take (i := 28) (v := ?vD0128) rfl (by kernel_rfl) (by kernel_rfl) (by kernel_rfl) (fun _ _ _ h => h) (Or.inl ⟨by kernel_rfl, ?hyD0128⟩) hS ?restD0128
            case hyD0128 =>
              intro w hSw
              have k0 := f0 w hSw; have k1 := f1 w hSw; have k2 := f2 w hSw; have k3 := g0 w hSw; have k4 := g1 w hSw; have k5 := lkF w hSw; have k6 := lkT w hSw; have k7 := lkP w hSw
              first | (go_simp; done) | (go_simp; with_reducible rfl)
            try simp only [Act.put, List.setIfInBounds_toArray, List.set_cons_zero, List.set_cons_succ]
            refine wpAnyH_take (i := 29) (v := ?vD0129) rfl (by kernel_rfl) (by kernel_rfl) (by kernel_rfl) (fun _ _ _ h => h) (Or.inl ⟨by kernel_rfl, ?hyD0129⟩) hS ?restD0129
            case hyD0129 =>
              intro w hSw
              first | (go_simp; done) | (go_simp; with_reducible rfl)
            try simp only [Act.put, List.setIfInBounds_toArray, List.set_cons_zero, List.set_cons_succ]
            refine wpAnyH_take (i := 30) (v := ?vD0130) rfl (by kernel_rfl) (by kernel_rfl) (by kernel_rfl) (fun _ _ _ h => h) (Or.inl ⟨by rfl, ?hyD0130⟩) hS ?restD0130
            case hyD0130 =>
              intro w hSw
              first | (go_simp; done) | (go_simp; with_reducible rfl)
            try simp only [Act.put, List.setIfInBounds_toArray, List.set_cons_zero, List.set_cons_succ]
            refine wpAnyH_ready (rs := [31]) (by kernel_rfl) (by simp) ?_
            refine AllReadyH.cons rfl (fun K hK => ?_) AllReadyH.nil
            go_simp
            go_wp2_with ((go_at_call 47; refine (KW2.out _).mono ?_; rintro e w' ⟨rfl, hb'⟩; have hO := hO.more hb'; have hS := hS.on hb'))
            refine hK.out _ _ hS (fun _ => ?_)
            clear hK K
            refine wpAnyH_ready (rs := [32]) (by kernel_rfl) (by simp) ?_
            refine AllReadyH.cons rfl (fun K hK => ?_) AllReadyH.nil
            go_simp
            have hNv : v.ownBlock ≠ some w'.heap.size := fun h => Nat.lt_irrefl _ (hO.low h).2
            have hO := hO.alloc (.cells #[.int .i64 x0, .int .i64 x1, .int .i64 x2] errT)
            have hS := hS.on (bel_alloc _ (.cells #[.int .i64 x0, .int .i64 x1, .int .i64 x2] errT))
            refine hK.out _ _ hS (fun _ => ?_)
            clear hK K
            refine wpAnyH_ready (rs := [33]) (by kernel_rfl) (by simp) ?_
            refine AllReadyH.cons rfl (fun K hK => ?_) AllReadyH.nil
            go_simp
            go_wp2_with ((go_at_call 46; refine (fadd_any _ v _ _ w'.heap.size 3 3 [x0, x1, x2] _ hO rfl (by omega) (errs_new w' _ rfl) hNv HFL.out).mono ?_; rintro e w8 ⟨v8, rfl, hO8, hC8⟩; have hS := hS.trans hC8.but (fun _ _ h => h)))
            refine hK.out _ _ hS (fun _ => ?_)
            clear hK K
            refine wpAnyH_take (i := 34) (v := ?vD0134) rfl (by kernel_rfl) (by kernel_rfl) (by kernel_rfl) (fun _ _ _ h => h) (Or.inl ⟨by rfl, ?hyD0134⟩) hS ?restD0134
            case hyD0134 =>
              intro w hSw
              first | (go_simp; done) | (go_simp; with_reducible rfl)
            try simp only [Act.put, List.setIfInBounds_toArray, List.set_cons_zero, List.set_cons_succ]
            refine wpAnyH_done (by kernel_rfl) ?_ _
            have y0 := g0 _ hS
            have y1 := g1 _ hS
            have hm9 := SX.map MM2.out hv2 hS
            have hB12 : w.heap.size + 1 ≠ PB := by omega
            have hwPB : w.heap.size ≤ PB := by omega
            go_wp2_with (at_mapUpdate; refine wpList_put (en := enT) rfl _ _ _ 109 rfl twoK enT_inj Tryd.underlying109 rfl hm9 (by unfold maxLen; omega) (ordP d.f d.t) _ rfl HK.out ?_; intro w9 hm9 hg9; refine Hid.out ?_)
            have hb8 : Below w.heap.size w w8 := HB6.out.trans (hS.below HB6.out.size (fun k hk hv => by have := (HO6.out.low hv).1; omega))
            have hb9 : Below w.heap.size w w9 := hb8.grown hg9 hb8.size (fun k hk => by cases hk; exact hwPB)
            have HX : Hid (FOwn (PB + 1) w9 v8 (dstF l ds (k + 1)) ∧ MapS w9 (w.heap.size + 1) n (gK l) ∧ MapP w9 PB (m + 1) (gQ (ds.take (k + 1))) ∧ Below w.heap.size w w9) := Lib.hid ⟨by
                rw [HF.out, HEr.out]
                exact hO8.grown hg9 (.inl (fun e => by have := (hO8.low e.symm).1; omega)), (SX.map MM1.out hv1 hS).grown hg9 (fun e => hB12 (Option.some.inj e)), by rw [hT.out, ← HKP.out]; exact hm9, hb9⟩
            clear hm9 hg9 hb9 hb8 hO8 hC8 hS hO
            refine Lib.hid ?_
            go_wp2
            go_roundw
            case rel => exact ⟨_, k + 1, m + 1, rfl, by omega, by go_num, by omega, HX⟩
            case measure => simp [intOf]; omega
        | true =>
          cases us with
          | false =>
            obtain ⟨x0, hx0⟩ : ∃ x : Int, x = (if (!kt) = true then (14 : Int) else 0) := ⟨_, rfl⟩
            obtain ⟨x1, hx1⟩ : ∃ x : Int, x = (if tw = true then (6 : Int) else 0) := ⟨_, rfl⟩
            obtain ⟨x2, hx2⟩ : ∃ x : Int, x = (if true = true then (2 : Int) else 0) := ⟨_, rfl⟩
            have KW0 := Lib.hid (fun W => fwhen_any (!kt) 14 W)
            have KW1 := Lib.hid (fun W => fwhen_any tw 6 W)
            have KW2 : Hid (∀ W, Calls Tryd.prog 47 #[.bool true, .int .i64 2] W fun r w' => r = .returned (.int .i64 x2) ∧ Below W.heap.size W w') := Lib.hid (fun W => (fwhen_any true 2 W).mono (by rintro r w' ⟨rfl, rfl⟩; exact ⟨by rw [hx2], Below.refl _ _⟩))
            have HEr : Hid (dstE l (ds.take k) d = [x0, x1, x2]) := Lib.hid (by rw [HEq.out, hx0, hx1, hx2]; cases kt <;> rfl)
            rw [← hx0] at KW0
            rw [← hx1] at KW1
            clear hx0 hx1 hx2 HEq
            have hS : (SX w6 v) _ := But.of_below (Below.refl _ _).drew
            refine wp_region_held_drew (S := SX w6 v) (by kernel_rfl) hS (fun _ => ?_)
            refine wpAnyH_take (i := 0) (v := ?vD100) rfl (by kernel_rfl) (by kernel_rfl) (by kernel_rfl) (fun _ _ _ h => h) (Or.inl ⟨by rfl, ?hyD100⟩) hS ?restD100
            case hyD100 =>
              intro w hSw
              first | (go_simp; done) | (go_simp; with_reducible rfl)
            try simp only [Act.put, List.setIfInBounds_toArray, List.set_cons_zero, List.set_cons_succ]
            refine wpAnyH_take (i := 1) (v := ?vD101) rfl (by kernel_rfl) (by kernel_rfl) (by kernel_rfl) (fun _ _ _ h => h) (Or.inl ⟨by rfl, ?hyD101⟩) hS ?restD101
            case hyD101 =>
              intro w hSw
              first | (go_simp; done) | (go_simp; with_reducible rfl)
            try simp only [Act.put, List.setIfInBounds_toArray, List.set_cons_zero, List.set_cons_succ]
            refine wpAnyH_take (i := 4) (v := ?vD104) rfl (by kernel_rfl) (by kernel_rfl) (by kernel_rfl) (fun _ _ _ h => h) (Or.inl ⟨by rfl, ?hyD104⟩) hS ?restD104
            case hyD104 =>
              intro w hSw
              first | (go_simp; done) | (go_simp; with_reducible rfl)
            try simp only [Act.put, List.setIfInBounds_toArray, List.set_cons_zero, List.set_cons_succ]
            refine wpAnyH_take (i := 5) (v := ?vD105) rfl (by kernel_rfl) (by kernel_rfl) (by kernel_rfl) (fun _ _ _ h => h) (Or.inl ⟨by rfl, ?hyD105⟩) hS ?restD105
            case hyD105 =>
              intro w hSw
              first | (go_simp; done) | (go_simp; with_reducible rfl)
            try simp only [Act.put, List.setIfInBounds_toArray, List.set_cons_zero, List.set_cons_succ]
            refine wpAnyH_take (i := 6) (v := ?vD106) rfl (by kernel_rfl) (by kernel_rfl) (by kernel_rfl) (fun _ _ _ h => h) (Or.inl ⟨by rfl, ?hyD106⟩) hS ?restD106
            case hyD106 =>
              intro w hSw
              have k0 := f0 w hSw; have k1 := f1 w hSw; have k2 := f2 w hSw; have k3 := g0 w hSw; have k4 := g1 w hSw; have k5 := lkF w hSw; have k6 := lkT w hSw; have k7 := lkP w hSw
              first | (go_simp; done) | (go_simp; with_reducible rfl)
            try simp only [Act.put, List.setIfInBounds_toArray, List.set_cons_zero, List.set_cons_succ]
            refine wpAnyH_take (i := 7) (v := ?vD107) rfl (by kernel_rfl) (by kernel_rfl) (by kernel_rfl) (fun _ _ _ h => h) (Or.inl ⟨by rfl, ?hyD107⟩) hS ?restD107
            case hyD107 =>
              intro w hSw
              have k0 := f0 w hSw; have k1 := f1 w hSw; have k2 := f2 w hSw; have k3 := g0 w hSw; have k4 := g1 w hSw; have k5 := lkF w hSw; have k6 := lkT w hSw; have k7 := lkP w hSw
              first | (go_simp; done) | (go_simp; with_reducible rfl)
            try simp only [Act.put, List.setIfInBounds_toArray, List.set_cons_zero, List.set_cons_succ]
            refine wpAnyH_take (i := 8) (v := ?vD108) rfl (by kernel_rfl) (by kernel_rfl) (by kernel_rfl) (fun _ _ _ h => h) (Or.inl ⟨by rfl, ?hyD108⟩) hS ?restD108
            case hyD108 =>
              intro w hSw
              first | (go_simp; done) | (go_simp; with_reducible rfl)
            try simp only [Act.put, List.setIfInBounds_toArray, List.set_cons_zero, List.set_cons_succ]
            refine wpAnyH_take (i := 17) (v := ?vD1017) rfl (by kernel_rfl) (by kernel_rfl) (by kernel_rfl) (fun _ _ _ h => h) (Or.inl ⟨by rfl, ?hyD1017⟩) hS ?restD1017
            case hyD1017 =>
              intro w hSw
              first | (go_simp; done) | (go_simp; with_reducible rfl)
            try simp only [Act.put, List.setIfInBounds_toArray, List.set_cons_zero, List.set_cons_succ]
            refine wpAnyH_take (i := 18) (v := ?vD1018) rfl (by kernel_rfl) (by kernel_rfl) (by kernel_rfl) (fun _ _ _ h => h) (Or.inl ⟨by rfl, ?hyD1018⟩) hS ?restD1018
            case hyD1018 =>
              intro w hSw
              have k0 := f0 w hSw; have k1 := f1 w hSw; have k2 := f2 w hSw; have k3 := g0 w hSw; have k4 := g1 w hSw; have k5 := lkF w hSw; have k6 := lkT w hSw; have k7 := lkP w hSw
              first | (go_simp; done) | (go_simp; with_reducible rfl)
            try simp only [Act.put, List.setIfInBounds_toArray, List.set_cons_zero, List.set_cons_succ]
            refine wpAnyH_take (i := 19) (v := ?vD1019) rfl (by kernel_rfl) (by kernel_rfl) (by kernel_rfl) (fun _ _ _ h => h) (Or.inl ⟨by rfl, ?hyD1019⟩) hS ?restD1019
            case hyD1019 =>
              intro w hSw
              have k0 := f0 w hSw; have k1 := f1 w hSw; have k2 := f2 w hSw; have k3 := g0 w hSw; have k4 := g1 w hSw; have k5 := lkF w hSw; have k6 := lkT w hSw; have k7 := lkP w hSw
              first | (go_simp; done) | (go_simp; with_reducible rfl)
            try simp only [Act.put, List.setIfInBounds_toArray, List.set_cons_zero, List.set_cons_succ]
            refine wpAnyH_take (i := 21) (v := ?vD1021) rfl (by kernel_rfl) (by kernel_rfl) (by kernel_rfl) (fun _ _ _ h => h) (Or.inl ⟨by rfl, ?hyD1021⟩) hS ?restD1021
            case hyD1021 =>
              intro w hSw
              have k0 := f0 w hSw; have k1 := f1 w hSw; have k2 := f2 w hSw; have k3 := g0 w hSw; have k4 := g1 w hSw; have k5 := lkF w hSw; have k6 := lkT w hSw; have k7 := lkP w hSw
              first | (go_simp; done) | (go_simp; with_reducible rfl)
            try simp only [Act.put, List.setIfInBounds_toArray, List.set_cons_zero, List.set_cons_succ]
            refine wpAnyH_ready (rs := [2]) (by kernel_rfl) (by simp) ?_
            refine AllReadyH.cons rfl (fun K hK => ?_) AllReadyH.nil
            go_simp
            go_wp2_with ((go_at_call 52; refine (KD.out _).mono ?_; rintro e w' ⟨rfl, rfl⟩))
            refine hK.out _ _ hS (fun _ => ?_)
            clear hK K
            refine wpAnyH_take (i := 3) (v := ?vD103) rfl (by kernel_rfl) (by kernel_rfl) (by kernel_rfl) (fun _ _ _ h => h) (Or.inl ⟨by rfl, ?hyD103⟩) hS ?restD103
            case hyD103 =>
              intro w hSw
              have kadd := hadd w
              first | (go_simp; done) | (go_simp; with_reducible rfl)
            try simp only [Act.put, List.setIfInBounds_toArray, List.set_cons_zero, List.set_cons_succ]
            refine wpAnyH_take (i := 9) (v := ?vD109) rfl (by kernel_rfl) (by kernel_rfl) (by kernel_rfl) (fun _ _ _ h => h) (Or.inl ⟨by rfl, ?hyD109⟩) hS ?restD109
            case hyD109 =>
              intro w hSw
              first | (go_simp; done) | (go_simp; with_reducible rfl)
            try simp only [Act.put, List.setIfInBounds_toArray, List.set_cons_zero, List.set_cons_succ]
            refine wpAnyH_take (i := 10) (v := ?vD1010) rfl (by kernel_rfl) (by kernel_rfl) (by kernel_rfl) (fun _ _ _ h => h) (Or.inl ⟨by kernel_rfl, ?hyD1010⟩) hS ?restD1010
            case hyD1010 =>
              intro w hSw
              first | (go_simp; done) | (go_simp; with_reducible rfl)
            try simp only [Act.put, List.setIfInBounds_toArray, List.set_cons_zero, List.set_cons_succ]
            refine wpAnyH_take (i := 11) (v := ?vD1011) rfl (by kernel_rfl) (by kernel_rfl) (by kernel_rfl) (fun _ _ _ h => h) (Or.inl ⟨by kernel_rfl, ?hyD1011⟩) hS ?restD1011
            case hyD1011 =>
              intro w hSw
              first | (go_simp; done) | (go_simp; with_reducible rfl)
            try simp only [Act.put, List.setIfInBounds_toArray, List.set_cons_zero, List.set_cons_succ]
            refine wpAnyH_take (i := 12) (v := ?vD1012) rfl (by kernel_rfl) (by kernel_rfl) (by kernel_rfl) (fun _ _ _ h => h) (Or.inl ⟨by kernel_rfl, ?hyD1012⟩) hS ?restD1012
            case hyD1012 =>
              intro w hSw
              have k0 := f0 w hSw; have k1 := f1 w hSw; have k2 := f2 w hSw; have k3 := g0 w hSw; have k4 := g1 w hSw; have k5 := lkF w hSw; have k6 := lkT w hSw; have k7 := lkP w hSw
              first | (go_simp; done) | (go_simp; with_reducible rfl)
            try simp only [Act.put, List.setIfInBounds_toArray, List.set_cons_zero, List.set_cons_succ]
            refine wpAnyH_take (i := 13) (v := ?vD1013) rfl (by kernel_rfl) (by kernel_rfl) (by kernel_rfl) (fun _ _ _ h => h) (Or.inl ⟨by kernel_rfl, ?hyD1013⟩) hS ?restD1013
            case hyD1013 =>
              intro w hSw
              have k0 := f0 w hSw; have k1 := f1 w hSw; have k2 := f2 w hSw; have k3 := g0 w hSw; have k4 := g1 w hSw; have k5 := lkF w hSw; have k6 := lkT w hSw; have k7 := lkP w hSw
              first | (go_simp; done) | (go_simp; with_reducible rfl)
            try simp only [Act.put, List.setIfInBounds_toArray, List.set_cons_zero, List.set_cons_succ]
            refine wpAnyH_take (i := 14) (v := ?vD1014) rfl (by kernel_rfl) (by kernel_rfl) (by kernel_rfl) (fun _ _ _ h => h) (Or.inl ⟨by kernel_rfl, ?hyD1014⟩) hS ?restD1014
            case hyD1014 =>
              intro w hSw
              first | (go_simp; done) | (go_simp; with_reducible rfl)
            try simp only [Act.put, List.setIfInBounds_toArray, List.set_cons_zero, List.set_cons_succ]
            refine wpAnyH_take (i := 15) (v := ?vD1015) rfl (by kernel_rfl) (by kernel_rfl) (by kernel_rfl) (fun _ _ _ h => h) (Or.inl ⟨by rfl, ?hyD1015⟩) hS ?restD1015
            case hyD1015 =>
              intro w hSw
              first | (go_simp; done) | (go_simp; with_reducible rfl)
            try simp only [Act.put, List.setIfInBounds_toArray, List.set_cons_zero, List.set_cons_succ]
            refine wpAnyH_ready (rs := [16]) (by kernel_rfl) (by simp) ?_
            refine AllReadyH.cons rfl (fun K hK => ?_) AllReadyH.nil
            go_simp
            go_wp2_with ((go_at_call 47; refine (KW0.out _).mono ?_; rintro e w' ⟨rfl, rfl⟩))
            refine hK.out _ _ hS (fun _ => ?_)
            clear hK K
            refine wpAnyH_ready (rs := [20]) (by kernel_rfl) (by simp) ?_
            refine AllReadyH.cons rfl (fun K hK => ?_) AllReadyH.nil
            go_simp
            go_wp2_with ((go_at_call 47; refine (KW1.out _).mono ?_; rintro e w' ⟨rfl, rfl⟩))
            refine hK.out _ _ hS (fun _ => ?_)
            clear hK K
            refine wpAnyH_ready (rs := [22]) (by kernel_rfl) (by simp) ?_
            refine AllReadyH.cons rfl (fun K hK => ?_) AllReadyH.nil
            go_simp
            go_wp2_with ((go_at_call 67; refine (KU.out _).mono ?_; rintro e w' ⟨rfl, hb'⟩; have hO := hO.more hb'; have hS := hS.on hb'))
            refine hK.out _ _ hS (fun _ => ?_)
            clear hK K
            refine wpAnyH_take (i := 23) (v := ?vD1023) rfl (by kernel_rfl) (by kernel_rfl) (by kernel_rfl) (fun _ _ _ h => h) (Or.inl ⟨by rfl, ?hyD1023⟩) hS ?restD1023
            case hyD1023 =>
              intro w hSw
              first | (go_simp; done) | (go_simp; with_reducible rfl)
            try simp only [Act.put, List.setIfInBounds_toArray, List.set_cons_zero, List.set_cons_succ]
            refine wpAnyH_take (i := 24) (v := ?vD1024) rfl (by kernel_rfl) (by kernel_rfl) (by kernel_rfl) (fun _ _ _ h => h) (Or.inl ⟨by rfl, ?hyD1024⟩) hS ?restD1024
            case hyD1024 =>
              intro w hSw
              first | (go_simp; done) | (go_simp; with_reducible rfl)
            try simp only [Act.put, List.setIfInBounds_toArray, List.set_cons_zero, List.set_cons_succ]
            refine wpAnyH_take (i := 25) (v := undef) rfl (by kernel_rfl) (by kernel_rfl) (by kernel_rfl) (fun _ _ _ h => h) (Or.inr ⟨by kernel_rfl, rfl⟩) hS ?_
            try simp only [Act.put, List.setIfInBounds_toArray, List.set_cons_zero, List.set_cons_succ]
            refine wpAnyH_take (i := 26) (v := undef) rfl (by kernel_rfl) (by kernel_rfl) (by kernel_rfl) (fun _ _ _ h => h) (Or.inr ⟨by kernel_rfl, rfl⟩) hS ?_
            try simp only [Act.put, List.setIfInBounds_toArray, List.set_cons_zero, List.set_cons_succ]
            refine wpAnyH_take (i := 27) (v := undef) rfl (by kernel_rfl) (by kernel_rfl) (by kernel_rfl) (fun _ _ _ h => h) (Or.inr ⟨by kernel_rfl, rfl⟩) hS ?_
            try simp only [Act.put, List.setIfInBounds_toArray, List.set_cons_zero, List.set_cons_succ]
            refine wpAnyH_take (i := 28) (v := undef) rfl (by kernel_rfl) (by kernel_rfl) (by kernel_rfl) (fun _ _ _ h => h) (Or.inr ⟨by kernel_rfl, rfl⟩) hS ?_
            try simp only [Act.put, List.setIfInBounds_toArray, List.set_cons_zero, List.set_cons_succ]
            refine wpAnyH_take (i := 29) (v := undef) rfl (by kernel_rfl) (by kernel_rfl) (by kernel_rfl) (fun _ _ _ h => h) (Or.inr ⟨by kernel_rfl, rfl⟩) hS ?_
            try simp only [Act.put, List.setIfInBounds_toArray, List.set_cons_zero, List.set_cons_succ]
            refine wpAnyH_take (i := 30) (v := ?vD1030) rfl (by kernel_rfl) (by kernel_rfl) (by kernel_rfl) (fun _ _ _ h => h) (Or.inl ⟨by rfl, ?hyD1030⟩) hS ?restD1030
            case hyD1030 =>
              intro w hSw
              first | (go_simp; done) | (go_simp; with_reducible rfl)
            try simp only [Act.put, List.setIfInBounds_toArray, List.set_cons_zero, List.set_cons_succ]
            refine wpAnyH_ready (rs := [31]) (by kernel_rfl) (by simp) ?_
            refine AllReadyH.cons rfl (fun K hK => ?_) AllReadyH.nil
            go_simp
            go_wp2_with ((go_at_call 47; refine (KW2.out _).mono ?_; rintro e w' ⟨rfl, hb'⟩; have hO := hO.more hb'; have hS := hS.on hb'))
            refine hK.out _ _ hS (fun _ => ?_)
            clear hK K
            refine wpAnyH_ready (rs := [32]) (by kernel_rfl) (by simp) ?_
            refine AllReadyH.cons rfl (fun K hK => ?_) AllReadyH.nil
            go_simp
            have hNv : v.ownBlock ≠ some w'.heap.size := fun h => Nat.lt_irrefl _ (hO.low h).2
            have hO := hO.alloc (.cells #[.int .i64 x0, .int .i64 x1, .int .i64 x2] errT)
            have hS := hS.on (bel_alloc _ (.cells #[.int .i64 x0, .int .i64 x1, .int .i64 x2] errT))
            refine hK.out _ _ hS (fun _ => ?_)
            clear hK K
            refine wpAnyH_ready (rs := [33]) (by kernel_rfl) (by simp) ?_
            refine AllReadyH.cons rfl (fun K hK => ?_) AllReadyH.nil
            go_simp
            go_wp2_with ((go_at_call 46; refine (fadd_any _ v _ _ w'.heap.size 3 3 [x0, x1, x2] _ hO rfl (by omega) (errs_new w' _ rfl) hNv HFL.out).mono ?_; rintro e w8 ⟨v8, rfl, hO8, hC8⟩; have hS := hS.trans hC8.but (fun _ _ h => h)))
            refine hK.out _ _ hS (fun _ => ?_)
            clear hK K
            refine wpAnyH_take (i := 34) (v := ?vD1034) rfl (by kernel_rfl) (by kernel_rfl) (by kernel_rfl) (fun _ _ _ h => h) (Or.inl ⟨by rfl, ?hyD1034⟩) hS ?restD1034
            case hyD1034 =>
              intro w hSw
              first | (go_simp; done) | (go_simp; with_reducible rfl)
            try simp only [Act.put, List.setIfInBounds_toArray, List.set_cons_zero, List.set_cons_succ]
            refine wpAnyH_done (by kernel_rfl) ?_ _
            have y0 := g0 _ hS
            have y1 := g1 _ hS
            have hm9 := SX.map MM2.out hv2 hS
            have hB12 : w.heap.size + 1 ≠ PB := by omega
            have hwPB : w.heap.size ≤ PB := by omega
            go_wp2_with (at_mapUpdate; refine wpList_put (en := enT) rfl _ _ _ 109 rfl twoK enT_inj Tryd.underlying109 rfl hm9 (by unfold maxLen; omega) (ordP d.f d.t) _ rfl HK.out ?_; intro w9 hm9 hg9; refine Hid.out ?_)
            have hb8 : Below w.heap.size w w8 := HB6.out.trans (hS.below HB6.out.size (fun k hk hv => by have := (HO6.out.low hv).1; omega))
            have hb9 : Below w.heap.size w w9 := hb8.grown hg9 hb8.size (fun k hk => by cases hk; exact hwPB)
            have HX : Hid (FOwn (PB + 1) w9 v8 (dstF l ds (k + 1)) ∧ MapS w9 (w.heap.size + 1) n (gK l) ∧ MapP w9 PB (m + 1) (gQ (ds.take (k + 1))) ∧ Below w.heap.size w w9) := Lib.hid ⟨by
                rw [HF.out, HEr.out]
                exact hO8.grown hg9 (.inl (fun e => by have := (hO8.low e.symm).1; omega)), (SX.map MM1.out hv1 hS).grown hg9 (fun e => hB12 (Option.some.inj e)), by rw [hT.out, ← HKP.out]; exact hm9, hb9⟩
            clear hm9 hg9 hb9 hb8 hO8 hC8 hS hO
            refine Lib.hid ?_
            go_wp2
            go_roundw
            case rel => exact ⟨_, k + 1, m + 1, rfl, by omega, by go_num, by omega, HX⟩
            case measure => simp [intOf]; omega
          | true =>
            obtain ⟨x0, hx0⟩ : ∃ x : Int, x = (if (!kt) = true then (14 : Int) else 0) := ⟨_, rfl⟩
            obtain ⟨x1, hx1⟩ : ∃ x : Int, x = (if tw = true then (6 : Int) else 0) := ⟨_, rfl⟩
            obtain ⟨x2, hx2⟩ : ∃ x : Int, x = (if (d.f.toList == d.t.toList) = true then (2 : Int) else 0) := ⟨_, rfl⟩
            have KW0 := Lib.hid (fun W => fwhen_any (!kt) 14 W)
            have KW1 := Lib.hid (fun W => fwhen_any tw 6 W)
            have KW2 : Hid (∀ W, Calls Tryd.prog 47 #[.bool (d.f.toList == d.t.toList), .int .i64 2] W fun r w' => r = .returned (.int .i64 x2) ∧ Below W.heap.size W w') := Lib.hid (fun W => (fwhen_any (d.f.toList == d.t.toList) 2 W).mono (by rintro r w' ⟨rfl, rfl⟩; exact ⟨by rw [hx2], Below.refl _ _⟩))
            have HEr : Hid (dstE l (ds.take k) d = [x0, x1, x2]) := Lib.hid (by rw [HEq.out, hx0, hx1, hx2]; cases kt <;> cases (d.f.toList == d.t.toList) <;> rfl)
            rw [← hx0] at KW0
            rw [← hx1] at KW1
            clear hx0 hx1 hx2 HEq
            have hS : (SX w6 v) _ := But.of_below (Below.refl _ _).drew
            refine wp_region_held_drew (S := SX w6 v) (by kernel_rfl) hS (fun _ => ?_)
            refine wpAnyH_take (i := 0) (v := ?vD110) rfl (by kernel_rfl) (by kernel_rfl) (by kernel_rfl) (fun _ _ _ h => h) (Or.inl ⟨by rfl, ?hyD110⟩) hS ?restD110
            case hyD110 =>
              intro w hSw
              first | (go_simp; done) | (go_simp; with_reducible rfl)
            try simp only [Act.put, List.setIfInBounds_toArray, List.set_cons_zero, List.set_cons_succ]
            refine wpAnyH_take (i := 1) (v := ?vD111) rfl (by kernel_rfl) (by kernel_rfl) (by kernel_rfl) (fun _ _ _ h => h) (Or.inl ⟨by rfl, ?hyD111⟩) hS ?restD111
            case hyD111 =>
              intro w hSw
              first | (go_simp; done) | (go_simp; with_reducible rfl)
            try simp only [Act.put, List.setIfInBounds_toArray, List.set_cons_zero, List.set_cons_succ]
            refine wpAnyH_take (i := 4) (v := ?vD114) rfl (by kernel_rfl) (by kernel_rfl) (by kernel_rfl) (fun _ _ _ h => h) (Or.inl ⟨by rfl, ?hyD114⟩) hS ?restD114
            case hyD114 =>
              intro w hSw
              first | (go_simp; done) | (go_simp; with_reducible rfl)
            try simp only [Act.put, List.setIfInBounds_toArray, List.set_cons_zero, List.set_cons_succ]
            refine wpAnyH_take (i := 5) (v := ?vD115) rfl (by kernel_rfl) (by kernel_rfl) (by kernel_rfl) (fun _ _ _ h => h) (Or.inl ⟨by rfl, ?hyD115⟩) hS ?restD115
            case hyD115 =>
              intro w hSw
              first | (go_simp; done) | (go_simp; with_reducible rfl)
            try simp only [Act.put, List.setIfInBounds_toArray, List.set_cons_zero, List.set_cons_succ]
            refine wpAnyH_take (i := 6) (v := ?vD116) rfl (by kernel_rfl) (by kernel_rfl) (by kernel_rfl) (fun _ _ _ h => h) (Or.inl ⟨by rfl, ?hyD116⟩) hS ?restD116
            case hyD116 =>
              intro w hSw
              have k0 := f0 w hSw; have k1 := f1 w hSw; have k2 := f2 w hSw; have k3 := g0 w hSw; have k4 := g1 w hSw; have k5 := lkF w hSw; have k6 := lkT w hSw; have k7 := lkP w hSw
              first | (go_simp; done) | (go_simp; with_reducible rfl)
            try simp only [Act.put, List.setIfInBounds_toArray, List.set_cons_zero, List.set_cons_succ]
            refine wpAnyH_take (i := 7) (v := ?vD117) rfl (by kernel_rfl) (by kernel_rfl) (by kernel_rfl) (fun _ _ _ h => h) (Or.inl ⟨by rfl, ?hyD117⟩) hS ?restD117
            case hyD117 =>
              intro w hSw
              have k0 := f0 w hSw; have k1 := f1 w hSw; have k2 := f2 w hSw; have k3 := g0 w hSw; have k4 := g1 w hSw; have k5 := lkF w hSw; have k6 := lkT w hSw; have k7 := lkP w hSw
              first | (go_simp; done) | (go_simp; with_reducible rfl)
            try simp only [Act.put, List.setIfInBounds_toArray, List.set_cons_zero, List.set_cons_succ]
            refine wpAnyH_take (i := 8) (v := ?vD118) rfl (by kernel_rfl) (by kernel_rfl) (by kernel_rfl) (fun _ _ _ h => h) (Or.inl ⟨by rfl, ?hyD118⟩) hS ?restD118
            case hyD118 =>
              intro w hSw
              first | (go_simp; done) | (go_simp; with_reducible rfl)
            try simp only [Act.put, List.setIfInBounds_toArray, List.set_cons_zero, List.set_cons_succ]
            refine wpAnyH_take (i := 17) (v := ?vD1117) rfl (by kernel_rfl) (by kernel_rfl) (by kernel_rfl) (fun _ _ _ h => h) (Or.inl ⟨by rfl, ?hyD1117⟩) hS ?restD1117
            case hyD1117 =>
              intro w hSw
              first | (go_simp; done) | (go_simp; with_reducible rfl)
            try simp only [Act.put, List.setIfInBounds_toArray, List.set_cons_zero, List.set_cons_succ]
            refine wpAnyH_take (i := 18) (v := ?vD1118) rfl (by kernel_rfl) (by kernel_rfl) (by kernel_rfl) (fun _ _ _ h => h) (Or.inl ⟨by rfl, ?hyD1118⟩) hS ?restD1118
            case hyD1118 =>
              intro w hSw
              have k0 := f0 w hSw; have k1 := f1 w hSw; have k2 := f2 w hSw; have k3 := g0 w hSw; have k4 := g1 w hSw; have k5 := lkF w hSw; have k6 := lkT w hSw; have k7 := lkP w hSw
              first | (go_simp; done) | (go_simp; with_reducible rfl)
            try simp only [Act.put, List.setIfInBounds_toArray, List.set_cons_zero, List.set_cons_succ]
            refine wpAnyH_take (i := 19) (v := ?vD1119) rfl (by kernel_rfl) (by kernel_rfl) (by kernel_rfl) (fun _ _ _ h => h) (Or.inl ⟨by rfl, ?hyD1119⟩) hS ?restD1119
            case hyD1119 =>
              intro w hSw
              have k0 := f0 w hSw; have k1 := f1 w hSw; have k2 := f2 w hSw; have k3 := g0 w hSw; have k4 := g1 w hSw; have k5 := lkF w hSw; have k6 := lkT w hSw; have k7 := lkP w hSw
              first | (go_simp; done) | (go_simp; with_reducible rfl)
            try simp only [Act.put, List.setIfInBounds_toArray, List.set_cons_zero, List.set_cons_succ]
            refine wpAnyH_take (i := 21) (v := ?vD1121) rfl (by kernel_rfl) (by kernel_rfl) (by kernel_rfl) (fun _ _ _ h => h) (Or.inl ⟨by rfl, ?hyD1121⟩) hS ?restD1121
            case hyD1121 =>
              intro w hSw
              have k0 := f0 w hSw; have k1 := f1 w hSw; have k2 := f2 w hSw; have k3 := g0 w hSw; have k4 := g1 w hSw; have k5 := lkF w hSw; have k6 := lkT w hSw; have k7 := lkP w hSw
              first | (go_simp; done) | (go_simp; with_reducible rfl)
            try simp only [Act.put, List.setIfInBounds_toArray, List.set_cons_zero, List.set_cons_succ]
            refine wpAnyH_ready (rs := [2]) (by kernel_rfl) (by simp) ?_
            refine AllReadyH.cons rfl (fun K hK => ?_) AllReadyH.nil
            go_simp
            go_wp2_with ((go_at_call 52; refine (KD.out _).mono ?_; rintro e w' ⟨rfl, rfl⟩))
            refine hK.out _ _ hS (fun _ => ?_)
            clear hK K
            refine wpAnyH_take (i := 3) (v := ?vD113) rfl (by kernel_rfl) (by kernel_rfl) (by kernel_rfl) (fun _ _ _ h => h) (Or.inl ⟨by rfl, ?hyD113⟩) hS ?restD113
            case hyD113 =>
              intro w hSw
              have kadd := hadd w
              first | (go_simp; done) | (go_simp; with_reducible rfl)
            try simp only [Act.put, List.setIfInBounds_toArray, List.set_cons_zero, List.set_cons_succ]
            refine wpAnyH_take (i := 9) (v := ?vD119) rfl (by kernel_rfl) (by kernel_rfl) (by kernel_rfl) (fun _ _ _ h => h) (Or.inl ⟨by rfl, ?hyD119⟩) hS ?restD119
            case hyD119 =>
              intro w hSw
              first | (go_simp; done) | (go_simp; with_reducible rfl)
            try simp only [Act.put, List.setIfInBounds_toArray, List.set_cons_zero, List.set_cons_succ]
            refine wpAnyH_take (i := 10) (v := ?vD1110) rfl (by kernel_rfl) (by kernel_rfl) (by kernel_rfl) (fun _ _ _ h => h) (Or.inl ⟨by kernel_rfl, ?hyD1110⟩) hS ?restD1110
            case hyD1110 =>
              intro w hSw
              first | (go_simp; done) | (go_simp; with_reducible rfl)
            try simp only [Act.put, List.setIfInBounds_toArray, List.set_cons_zero, List.set_cons_succ]
            refine wpAnyH_take (i := 11) (v := ?vD1111) rfl (by kernel_rfl) (by kernel_rfl) (by kernel_rfl) (fun _ _ _ h => h) (Or.inl ⟨by kernel_rfl, ?hyD1111⟩) hS ?restD1111
            case hyD1111 =>
              intro w hSw
              first | (go_simp; done) | (go_simp; with_reducible rfl)
            try simp only [Act.put, List.setIfInBounds_toArray, List.set_cons_zero, List.set_cons_succ]
            refine wpAnyH_take (i := 12) (v := ?vD1112) rfl (by kernel_rfl) (by kernel_rfl) (by kernel_rfl) (fun _ _ _ h => h) (Or.inl ⟨by kernel_rfl, ?hyD1112⟩) hS ?restD1112
            case hyD1112 =>
              intro w hSw
              have k0 := f0 w hSw; have k1 := f1 w hSw; have k2 := f2 w hSw; have k3 := g0 w hSw; have k4 := g1 w hSw; have k5 := lkF w hSw; have k6 := lkT w hSw; have k7 := lkP w hSw
              first | (go_simp; done) | (go_simp; with_reducible rfl)
            try simp only [Act.put, List.setIfInBounds_toArray, List.set_cons_zero, List.set_cons_succ]
            refine wpAnyH_take (i := 13) (v := ?vD1113) rfl (by kernel_rfl) (by kernel_rfl) (by kernel_rfl) (fun _ _ _ h => h) (Or.inl ⟨by kernel_rfl, ?hyD1113⟩) hS ?restD1113
            case hyD1113 =>
              intro w hSw
              have k0 := f0 w hSw; have k1 := f1 w hSw; have k2 := f2 w hSw; have k3 := g0 w hSw; have k4 := g1 w hSw; have k5 := lkF w hSw; have k6 := lkT w hSw; have k7 := lkP w hSw
              first | (go_simp; done) | (go_simp; with_reducible rfl)
            try simp only [Act.put, List.setIfInBounds_toArray, List.set_cons_zero, List.set_cons_succ]
            refine wpAnyH_take (i := 14) (v := ?vD1114) rfl (by kernel_rfl) (by kernel_rfl) (by kernel_rfl) (fun _ _ _ h => h) (Or.inl ⟨by kernel_rfl, ?hyD1114⟩) hS ?restD1114
            case hyD1114 =>
              intro w hSw
              first | (go_simp; done) | (go_simp; with_reducible rfl)
            try simp only [Act.put, List.setIfInBounds_toArray, List.set_cons_zero, List.set_cons_succ]
            refine wpAnyH_take (i := 15) (v := ?vD1115) rfl (by kernel_rfl) (by kernel_rfl) (by kernel_rfl) (fun _ _ _ h => h) (Or.inl ⟨by rfl, ?hyD1115⟩) hS ?restD1115
            case hyD1115 =>
              intro w hSw
              first | (go_simp; done) | (go_simp; with_reducible rfl)
            try simp only [Act.put, List.setIfInBounds_toArray, List.set_cons_zero, List.set_cons_succ]
            refine wpAnyH_ready (rs := [16]) (by kernel_rfl) (by simp) ?_
            refine AllReadyH.cons rfl (fun K hK => ?_) AllReadyH.nil
            go_simp
            go_wp2_with ((go_at_call 47; refine (KW0.out _).mono ?_; rintro e w' ⟨rfl, rfl⟩))
            refine hK.out _ _ hS (fun _ => ?_)
            clear hK K
            refine wpAnyH_ready (rs := [20]) (by kernel_rfl) (by simp) ?_
            refine AllReadyH.cons rfl (fun K hK => ?_) AllReadyH.nil
            go_simp
            go_wp2_with ((go_at_call 47; refine (KW1.out _).mono ?_; rintro e w' ⟨rfl, rfl⟩))
            refine hK.out _ _ hS (fun _ => ?_)
            clear hK K
            refine wpAnyH_ready (rs := [22]) (by kernel_rfl) (by simp) ?_
            refine AllReadyH.cons rfl (fun K hK => ?_) AllReadyH.nil
            go_simp
            go_wp2_with ((go_at_call 67; refine (KU.out _).mono ?_; rintro e w' ⟨rfl, hb'⟩; have hO := hO.more hb'; have hS := hS.on hb'))
            refine hK.out _ _ hS (fun _ => ?_)
            clear hK K
            refine wpAnyH_take (i := 23) (v := ?vD1123) rfl (by kernel_rfl) (by kernel_rfl) (by kernel_rfl) (fun _ _ _ h => h) (Or.inl ⟨by rfl, ?hyD1123⟩) hS ?restD1123
            case hyD1123 =>
              intro w hSw
              first | (go_simp; done) | (go_simp; with_reducible rfl)
            try simp only [Act.put, List.setIfInBounds_toArray, List.set_cons_zero, List.set_cons_succ]
            refine wpAnyH_take (i := 24) (v := ?vD1124) rfl (by kernel_rfl) (by kernel_rfl) (by kernel_rfl) (fun _ _ _ h => h) (Or.inl ⟨by rfl, ?hyD1124⟩) hS ?restD1124
            case hyD1124 =>
              intro w hSw
              first | (go_simp; done) | (go_simp; with_reducible rfl)
            try simp only [Act.put, List.setIfInBounds_toArray, List.set_cons_zero, List.set_cons_succ]
            refine wpAnyH_take (i := 25) (v := ?vD1125) rfl (by kernel_rfl) (by kernel_rfl) (by kernel_rfl) (fun _ _ _ h => h) (Or.inl ⟨by kernel_rfl, ?hyD1125⟩) hS ?restD1125
            case hyD1125 =>
              intro w hSw
              first | (go_simp; done) | (go_simp; with_reducible rfl)
            try simp only [Act.put, List.setIfInBounds_toArray, List.set_cons_zero, List.set_cons_succ]
            refine wpAnyH_take (i := 26) (v := ?vD1126) rfl (by kernel_rfl) (by kernel_rfl) (by kernel_rfl) (fun _ _ _ h => h) (Or.inl ⟨by kernel_rfl, ?hyD1126⟩) hS ?restD1126
            case hyD1126 =>
              intro w hSw
              have k0 := f0 w hSw; have k1 := f1 w hSw; have k2 := f2 w hSw; have k3 := g0 w hSw; have k4 := g1 w hSw; have k5 := lkF w hSw; have k6 := lkT w hSw; have k7 := lkP w hSw
              first | (go_simp; done) | (go_simp; with_reducible rfl)
            try simp only [Act.put, List.setIfInBounds_toArray, List.set_cons_zero, List.set_cons_succ]
            refine wpAnyH_take (i := 27) (v := ?vD1127) rfl (by kernel_rfl) (by kernel_rfl) (by kernel_rfl) (fun _ _ _ h => h) (Or.inl ⟨by kernel_rfl, ?hyD1127⟩) hS ?restD1127
            case hyD1127 =>
              intro w hSw
              first | (go_simp; done) | (go_simp; with_reducible rfl)
            try simp only [Act.put, List.setIfInBounds_toArray, List.set_cons_zero, List.set_cons_succ]
            refine wpAnyH_take (i := 28) (v := ?vD1128) rfl (by kernel_rfl) (by kernel_rfl) (by kernel_rfl) (fun _ _ _ h => h) (Or.inl ⟨by kernel_rfl, ?hyD1128⟩) hS ?restD1128
            case hyD1128 =>
              intro w hSw
              have k0 := f0 w hSw; have k1 := f1 w hSw; have k2 := f2 w hSw; have k3 := g0 w hSw; have k4 := g1 w hSw; have k5 := lkF w hSw; have k6 := lkT w hSw; have k7 := lkP w hSw
              first | (go_simp; done) | (go_simp; with_reducible rfl)
            try simp only [Act.put, List.setIfInBounds_toArray, List.set_cons_zero, List.set_cons_succ]
            refine wpAnyH_take (i := 29) (v := ?vD1129) rfl (by kernel_rfl) (by kernel_rfl) (by kernel_rfl) (fun _ _ _ h => h) (Or.inl ⟨by kernel_rfl, ?hyD1129⟩) hS ?restD1129
            case hyD1129 =>
              intro w hSw
              first | (go_simp; done) | (go_simp; with_reducible rfl)
            try simp only [Act.put, List.setIfInBounds_toArray, List.set_cons_zero, List.set_cons_succ]
            refine wpAnyH_take (i := 30) (v := ?vD1130) rfl (by kernel_rfl) (by kernel_rfl) (by kernel_rfl) (fun _ _ _ h => h) (Or.inl ⟨by rfl, ?hyD1130⟩) hS ?restD1130
            case hyD1130 =>
              intro w hSw
              first | (go_simp; done) | (go_simp; with_reducible rfl)
            try simp only [Act.put, List.setIfInBounds_toArray, List.set_cons_zero, List.set_cons_succ]
            refine wpAnyH_ready (rs := [31]) (by kernel_rfl) (by simp) ?_
            refine AllReadyH.cons rfl (fun K hK => ?_) AllReadyH.nil
            go_simp
            go_wp2_with ((go_at_call 47; refine (KW2.out _).mono ?_; rintro e w' ⟨rfl, hb'⟩; have hO := hO.more hb'; have hS := hS.on hb'))
            refine hK.out _ _ hS (fun _ => ?_)
            clear hK K
            refine wpAnyH_ready (rs := [32]) (by kernel_rfl) (by simp) ?_
            refine AllReadyH.cons rfl (fun K hK => ?_) AllReadyH.nil
            go_simp
            have hNv : v.ownBlock ≠ some w'.heap.size := fun h => Nat.lt_irrefl _ (hO.low h).2
            have hO := hO.alloc (.cells #[.int .i64 x0, .int .i64 x1, .int .i64 x2] errT)
            have hS := hS.on (bel_alloc _ (.cells #[.int .i64 x0, .int .i64 x1, .int .i64 x2] errT))
            refine hK.out _ _ hS (fun _ => ?_)
            clear hK K
            refine wpAnyH_ready (rs := [33]) (by kernel_rfl) (by simp) ?_
            refine AllReadyH.cons rfl (fun K hK => ?_) AllReadyH.nil
            go_simp
            go_wp2_with ((go_at_call 46; refine (fadd_any _ v _ _ w'.heap.size 3 3 [x0, x1, x2] _ hO rfl (by omega) (errs_new w' _ rfl) hNv HFL.out).mono ?_; rintro e w8 ⟨v8, rfl, hO8, hC8⟩; have hS := hS.trans hC8.but (fun _ _ h => h)))
            refine hK.out _ _ hS (fun _ => ?_)
            clear hK K
            refine wpAnyH_take (i := 34) (v := ?vD1134) rfl (by kernel_rfl) (by kernel_rfl) (by kernel_rfl) (fun _ _ _ h => h) (Or.inl ⟨by rfl, ?hyD1134⟩) hS ?restD1134
            case hyD1134 =>
              intro w hSw
              first | (go_simp; done) | (go_simp; with_reducible rfl)
            try simp only [Act.put, List.setIfInBounds_toArray, List.set_cons_zero, List.set_cons_succ]
            refine wpAnyH_done (by kernel_rfl) ?_ _
            have y0 := g0 _ hS
            have y1 := g1 _ hS
            have hm9 := SX.map MM2.out hv2 hS
            have hB12 : w.heap.size + 1 ≠ PB := by omega
            have hwPB : w.heap.size ≤ PB := by omega
            go_wp2_with (at_mapUpdate; refine wpList_put (en := enT) rfl _ _ _ 109 rfl twoK enT_inj Tryd.underlying109 rfl hm9 (by unfold maxLen; omega) (ordP d.f d.t) _ rfl HK.out ?_; intro w9 hm9 hg9; refine Hid.out ?_)
            have hb8 : Below w.heap.size w w8 := HB6.out.trans (hS.below HB6.out.size (fun k hk hv => by have := (HO6.out.low hv).1; omega))
            have hb9 : Below w.heap.size w w9 := hb8.grown hg9 hb8.size (fun k hk => by cases hk; exact hwPB)
            have HX : Hid (FOwn (PB + 1) w9 v8 (dstF l ds (k + 1)) ∧ MapS w9 (w.heap.size + 1) n (gK l) ∧ MapP w9 PB (m + 1) (gQ (ds.take (k + 1))) ∧ Below w.heap.size w w9) := Lib.hid ⟨by
                rw [HF.out, HEr.out]
                exact hO8.grown hg9 (.inl (fun e => by have := (hO8.low e.symm).1; omega)), (SX.map MM1.out hv1 hS).grown hg9 (fun e => hB12 (Option.some.inj e)), by rw [hT.out, ← HKP.out]; exact hm9, hb9⟩
            clear hm9 hg9 hb9 hb8 hO8 hC8 hS hO
            refine Lib.hid ?_
            go_wp2
            go_roundw
            case rel => exact ⟨_, k + 1, m + 1, rfl, by omega, by go_num, by omega, HX⟩
            case measure => simp [intOf]; omega
      · have HE : Hid (dstF l ds k = dstF l ds ds.length) := Lib.hid (by rw [show k = ds.length by omega])
        have HR : Hid (FOwn w.heap.size wr v (dstF l ds ds.length) ∧ Below w.heap.size w wr) := Lib.hid ⟨⟨by have := HJ.out.1.own; rw [HE.out] at this; exact this.mono (by omega), HJ.out.2.2.2.size⟩, HJ.out.2.2.2⟩
        go_wp2
        go_ret
        exact ⟨_, rfl, HR.out⟩

end Go.Proofs.YtjokpfeiganigaaDoor
