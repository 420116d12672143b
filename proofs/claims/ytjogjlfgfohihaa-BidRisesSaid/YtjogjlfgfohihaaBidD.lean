/- The program's Curve. -/
import Derived.Test.YtjogjlfgfohihaaBidC
import Derived.Deep.OwnRows
import Derived.Deep.LoopGhost
import Derived.BigQuiet
import Derived.Deep.CutRange
import Derived.Deep.CutBlock
namespace Go.Proofs.Ytjogjlfgfohihaa
open Go.RowKit Go.Shelf
set_option linter.unusedSimpArgs false
set_option linter.unusedVariables false

/-- the cells of a demand in a box -/
theorem dm_cells (w : World) (d : Dm) : (w.alloc (.cells #[.int .i64 d.v, .int .i64 d.c] dmT)).cell? ⟨w.heap.size, 0, none⟩ = some (.int .i64 d.v) ∧ (w.alloc (.cells #[.int .i64 d.v, .int .i64 d.c] dmT)).cell? ⟨w.heap.size, 1, none⟩ = some (.int .i64 d.c) :=
  ⟨(cells_new w #[.int .i64 d.v, .int .i64 d.c] dmT 0).trans rfl, (cells_new w #[.int .i64 d.v, .int .i64 d.c] dmT 1).trans rfl⟩
/-- what Curve returns -/
def CurR (l : List Dm) (n : Int) (w w' : World) (e : Ending) : Prop :=
  ∃ A c a, e = .returned (.tuple #[.slice A a.length c, .int .i64 (curE l n)]) ∧ IntR w' (.slice A a.length c) a ∧ a.length ≤ c ∧ (curE l n = 0 → CurveR l n.toNat a) ∧ (curE l n ≠ 0 → a = []) ∧ Below w.heap.size w w'
theorem CurR.nil {l : List Dm} {n : Int} {w w' : World} {x : Int} (hx : curE l n = x) (h0 : x ≠ 0) (hb : Below w.heap.size w w') : CurR l n w w' (.returned (.tuple #[.slice none 0 0, .int .i64 x])) :=
  ⟨none, 0, [], by rw [hx]; rfl, ⟨none, 0, rfl, .inl rfl⟩, Nat.le_refl _, fun h => absurd (hx.symm.trans h) h0, fun _ => rfl, hb⟩
theorem dmsE_all {l : List Dm} {k : Nat} (h : dmsE (l.take k) = 0) (hk : l.length ≤ k) : dmsE l = 0 := by rw [List.take_of_length_le hk] at h; exact h
theorem curE_in {l : List Dm} {n : Int} (h0 : ¬ n < 0) (h1 : ¬ 999 < n) : curE l n = dmsE l := by unfold curE; rw [if_neg (by omega)]
/-- the prices under way: of the demands s the first k are filled in, and j of the next one -/
structure CurS (s : List Dm) (n k f : Nat) (a : List Int) : Prop where
  le : k ≤ s.length
  fill : FillR (s.take k) n f a
theorem CurS.fn {s : List Dm} {n k f : Nat} {a : List Int} (h : CurS s n k f a) : f ≤ n := by have := h.fill.full; omega
theorem CurS.next {s : List Dm} {n k f : Nat} {a : List Int} {d : Dm} (h : CurS s n k f a) (hd : s[k]? = some d) (hs : ∀ x ∈ s, 0 ≤ x.v ∧ x.v ≤ 1099511627776 ∧ 0 ≤ x.c) (ho : ∀ (i j : Nat) (x y : Dm), i < j → s[i]? = some x → s[j]? = some y → y.v ≤ x.v) (j : Nat) (hj : (j : Int) = if d.c < (n : Int) - f then d.c else (n : Int) - f) :
    CurS s n (k + 1) (f + j) (fillA a f j d.v) := by
  have hk := (List.getElem?_eq_some_iff.1 hd).1
  have hm := hs d (List.mem_of_getElem? hd)
  refine ⟨by omega, ?_⟩
  rw [List.take_add_one, hd]
  refine h.fill.step hm.1 hm.2.2 (fun x hx => ?_) j hj
  obtain ⟨i, hi⟩ := List.mem_iff_getElem?.1 hx
  have hik : i < k := by have := (List.getElem?_eq_some_iff.1 hi).1; simp at this; omega
  rw [List.getElem?_take_of_lt hik] at hi
  exact ho i k x d hik hi hd
theorem RowL.but2 {α : Type} {enc : α → List Value} {sz : Nat} {w w' : World} {X : Nat → Prop} {A : Option Addr} {n c : Nat} {l : List α} (h : RowL sz enc w (.slice A n c) l) (hB : But w w' X) (hx : l = [] ∨ ∀ b o, A = some ⟨b, o, none⟩ → ¬ X b) : RowL sz enc w' (.slice A n c) l := by
  obtain ⟨A', c', e, h⟩ := h
  cases e
  refine ⟨A, c, rfl, ?_⟩
  rcases h with h | ⟨b, o, rfl, hlt, hc⟩
  · exact .inl h
  · rcases hx with hx | hx
    · exact .inl hx
    · exact .inr ⟨b, o, rfl, Nat.lt_of_lt_of_le hlt hB.size, fun i x j u hi hu => (World.cell?_of_block (hB.block b hlt (hx b o rfl))).trans (hc i x j u hi hu)⟩
theorem But.cellD {w w' : World} {g b j : Nat} {v : Value} (h : But w w' (fun k => k = g)) (hb : b ≠ g) (hv : w.cell? ⟨b, j, none⟩ = some v) : w'.cell? ⟨b, j, none⟩ = some v :=
  (World.cell?_of_block (h.block b (World.block_lt_of_cell? w _ hv) hb)).trans hv
theorem But.set2 {w w' : World} {g : Nat} (h : But w w' (fun k => k = g)) (j : Nat) (v : Value) : But w (w'.setCell ⟨g, j, none⟩ v) (fun k => k = g) := h.trans (But.setCell w' g j v) (fun _ _ h => h)
theorem tN (c m f : Int) (h0 : 0 ≤ c) (h1 : f ≤ m) : ∃ t : Nat, (t : Int) = if c < m - f then c else m - f := by
  split
  · exact ⟨c.toNat, by omega⟩
  · exact ⟨(m - f).toNat, by omega⟩
set_option maxRecDepth 100000 in
set_option maxHeartbeats 8000000 in
theorem curve_any (A : Option Addr) (c : Nat) (l : List Dm) (n : Int) (w : World) (hl : l.length ≤ 1000) (hL : DmL w (.slice A l.length c) l) :
    Calls Try.prog 9 #[.slice A l.length c, .int .i64 n] w fun e w' => CurR l n w w' e := by
  by_cases h0 : n < 0
  · have HR : Hid (curE l n = 2) := Lib.hid (by unfold curE; rw [if_pos (.inl h0)])
    clear hL
    go_enter Try.func9, Try.ntmps9
    go_wp2
    go_ret2
    exact CurR.nil HR.out (by omega) (Below.refl _ _)
  by_cases h1 : 999 < n
  · have HR : Hid (curE l n = 2) := Lib.hid (by unfold curE; rw [if_pos (.inr h1)])
    clear hL
    go_enter Try.func9, Try.ntmps9
    go_wp2
    go_ret2
    exact CurR.nil HR.out (by omega) (Below.refl _ _)
  have HE := Lib.hid (curE_in (l := l) h0 h1)
  have HL := Lib.hid hL
  obtain ⟨m, rfl⟩ : ∃ m : Nat, n = (m : Int) := ⟨n.toNat, by omega⟩
  have hm : m ≤ 999 := by omega
  have KC : Hid (∀ d : Dm, ∀ W, Calls Try.prog 21 #[.agg #[.int .i64 d.v, .int .i64 d.c]] W fun e w' => e = .returned (.int .i64 (dmE d)) ∧ Below W.heap.size W w') := Lib.hid (fun d W => check_any d W)
  have KD : Hid (∀ W, Below w.heap.size w W → Calls Try.prog 22 #[.slice A l.length c] W fun e w' => ∃ v' l', e = .returned v' ∧ Dear W.heap.size l w' v' l' ∧ Below W.heap.size W w') := Lib.hid (fun W h => dearest_any A c l W hl (hL.more h))
  obtain ⟨i0, hi, hz0, hz1, hz2⟩ := info_parts intT
  have HI := Lib.hid hi
  have HZ0 := Lib.hid hz0
  have HZ1 := Lib.hid hz1
  have HZ2 := Lib.hid hz2
  clear hL hi hz0 hz1 hz2 h0 h1
  go_enter Try.func9, Try.ntmps9
  go_wp2
  go_loopw [21] (fun vi wr => ∃ k : Nat, k ≤ l.length ∧ vi = .int .i64 k ∧ Hid (dmsE (l.take k) = 0) ∧ Below w.heap.size w wr) (fun vi _ => l.length - (intOf vi).toNat)
  case atStart => exact ⟨0, Nat.zero_le _, rfl, Lib.hid rfl, Below.refl _ _⟩
  case round =>
    obtain ⟨k, hk, rfl, HK, hb⟩ := hrel
    by_cases hlt : k < l.length
    · obtain ⟨d, hka⟩ : ∃ d, l[k]? = some d := ⟨_, List.getElem?_eq_getElem hlt⟩
      obtain ⟨b, off, e1, hgl, ha⟩ := row_get (HL.out.more hb) hka
      cases e1
      have i2 : (k : Int) < (l.length : Int) := by omega
      have z0 := ha 0 _ rfl
      have z1 := ha 1 _ rfl
      rw [Nat.add_zero] at z0
      have HS := Lib.hid (dmsE_step hka HK.out)
      have hbA := bel_alloc wr (.cells #[.int .i64 d.v, .int .i64 d.c] dmT)
      obtain ⟨y0, y1⟩ := dm_cells wr d
      have K := Lib.hid (KC.out d (wr.alloc (.cells #[.int .i64 d.v, .int .i64 d.c] dmT)))
      have HB := Lib.hid (hb.trans (hbA.mono hb.size))
      clear ha hgl hka hbA
      obtain ⟨x, hx⟩ : ∃ x, x = dmE d := ⟨_, rfl⟩
      rw [← hx] at HS K
      by_cases h0 : x = 0
      · have HN : Hid (dmsE (l.take (k + 1)) = 0) := Lib.hid (HS.out.1.trans h0)
        have g0 : (x != 0) = false := by simp [h0]
        clear h0 hx HS
        go_wp2_with (go_at_call 21; refine K.out.mono ?_; rintro e w1 ⟨rfl, hb1⟩)
        go_roundw
        case rel => exact ⟨k + 1, by omega, by go_num, HN, HB.out.trans (hb1.mono HB.out.size)⟩
        case measure => simp [intOf]; omega
      · have HN : Hid (curE l (m : Int) = x) := Lib.hid (HE.out.trans (HS.out.2 h0))
        have H0 := Lib.hid h0
        have g0 : (x != 0) = true := by simp [h0]
        clear h0 hx HS
        go_wp2_with (go_at_call 21; refine K.out.mono ?_; rintro e w1 ⟨rfl, hb1⟩)
        go_ret2
        exact CurR.nil HN.out H0.out (HB.out.trans (hb1.mono HB.out.size))
    · have HZ : Hid (dmsE l = 0) := Lib.hid (dmsE_all HK.out (by omega))
      have HC : Hid (curE l (m : Int) = 0) := Lib.hid (HE.out.trans HZ.out)
      have HR := Lib.hid (Row.made wr m 3)
      have HB := Lib.hid (hb.trans ((bel_alloc wr (.cells (madeCells #[.int .i64 0] m) 3)).mono hb.size))
      have HG : Hid (w.heap.size ≤ wr.heap.size) := Lib.hid hb.size
      have HGS : Hid ((wr.alloc (.cells (madeCells #[.int .i64 0] m) 3)).heap.size = wr.heap.size + 1) := Lib.hid (by simp)
      have i2 : ¬ (k : Int) < (l.length : Int) := by omega
      clear HK hk hlt hb
      go_upto_region 11 with (at_make; refine wpList_make_row _ rfl _ _ 24 rfl 3 i0 (.int .i64 0) Try.underlying24 HI.out HZ0.out HZ1.out rfl _ _ m rfl rfl (by rw [HZ2.out]; omega) (by omega) ?_)
      generalize hg : wr.heap.size = g at *
      generalize wr.alloc (.cells (madeCells #[.int .i64 0] m) 3) = w5 at *
      clear hg
      have KD2 := Lib.hid (KD.out w5 HB.out)
      clear KD
      have HL0 : Hid (l.length ≤ 1000) := Lib.hid hl
      have HMM := Lib.hid (dmsE_zero HZ.out)
      clear HL HZ0 HZ1 HZ2 HI KC HE
      go_upto_region 13 with (go_at_call 22; (refine KD2.out.mono ?_; rintro e w6 ⟨v', s, rfl, hd, hb6⟩; obtain ⟨A', c', e6, _⟩ := id hd.row; subst e6; have HD := Lib.hid hd; have HB6 := Lib.hid hb6; clear hd hb6))
      have hsl : s.length ≤ 1000 := by have := HD.out.perm.length_eq; have := HL0.out; omega
      have HSM : Hid (∀ x ∈ s, 0 ≤ x.v ∧ x.v ≤ 1099511627776 ∧ 0 ≤ x.c) := Lib.hid (fun x hx => HMM.out x (HD.out.perm.mem_iff.1 hx))
      have HNE : Hid (s = [] ∨ ∀ b o, A' = some ⟨b, o, none⟩ → ¬ (b = g)) := Lib.hid (by
        rcases HD.out.fresh with h | h
        · exact .inl h
        · right
          intro b o e1 e2
          have h1 := h b o s.length c' (by rw [e1])
          rw [HGS.out] at h1
          omega)
      have HB0 := Lib.hid (HB.out.trans (HB6.out.mono HB.out.size))
      have HG6 : Hid (g < w6.heap.size) := Lib.hid (by have h1 := HB6.out.size; rw [HGS.out] at h1; omega)
      have HR6 := Lib.hid (HR.out.more HB6.out)
      clear HR HB HGS KD2
      try clear hl
      obtain ⟨q, hq⟩ : ∃ q, q = s.length := ⟨_, rfl⟩
      have HQ := Lib.hid hq
      rw [← hq] at hsl HD ⊢
      have HRW : Hid (DmL w6 (.slice A' q c') s) := Lib.hid (by rw [hq]; have := HD.out.row; rw [← hq]; exact this)
      clear hq
      go_wp2
      go_loopw [10, 36] (fun v10 vi W => ∃ (k f : Nat) (a : List Int), k ≤ q ∧ f ≤ m ∧ vi = .int .i64 k ∧ v10 = .int .i64 f ∧ Hid (CurS s m k f a ∧ Row W g a ∧ But w6 W (fun k => k = g))) (fun _ vi _ => q - (intOf vi).toNat)
      case atStart => exact ⟨0, 0, List.replicate m 0, Nat.zero_le _, Nat.zero_le _, rfl, rfl, Lib.hid ⟨⟨Nat.zero_le _, by simpa using FillR.zero m⟩, HR6.out, But.refl _ _⟩⟩
      case round =>
        obtain ⟨k, f, a, hk, hf, rfl, rfl, HK⟩ := hrel
        by_cases hlt : k < q
        · obtain ⟨d, hka⟩ : ∃ d, s[k]? = some d := ⟨_, List.getElem?_eq_getElem (by rw [← HQ.out]; exact hlt)⟩
          obtain ⟨b, off, e1, hgl, ha⟩ := row_get (RowL.but2 HRW.out HK.out.2.2 HNE.out) hka
          cases e1
          have i2 : (k : Int) < (q : Int) := by omega
          have z0 := ha 0 _ rfl
          have z1 := ha 1 _ rfl
          rw [Nat.add_zero] at z0
          have hm2 := HSM.out d (List.mem_of_getElem? hka)
          obtain ⟨t, ht⟩ := tN d.c m f hm2.2.2 (by omega)
          have HN := Lib.hid (HK.out.1.next hka HSM.out HD.out.ord t ht)
          have hft : f + t ≤ m := HN.out.fn
          have HT := Lib.hid ht
          have hGW : g < wr.heap.size := Nat.lt_of_lt_of_le HG6.out HK.out.2.2.size
          obtain ⟨y0, y1⟩ := dm_cells wr d
          have HY0 := Lib.hid y0
          have HBX : Hid (But w6 (wr.alloc (.cells #[.int .i64 d.v, .int .i64 d.c] dmT)) (fun k => k = g) ∧ Row (wr.alloc (.cells #[.int .i64 d.v, .int .i64 d.c] dmT)) g a) := Lib.hid ⟨HK.out.2.2.trans (But.of_below (bel_alloc wr _)) (fun _ _ h => h), HK.out.2.1.alloc _⟩
          have HAL : Hid (a.length = m) := Lib.hid HK.out.1.fill.len
          have HBN : Hid (wr.heap.size ≠ g) := Lib.hid (by omega)
          clear ha hgl hka ht hm2
          go_upto_region 16 with fail
          have HTM : Hid (min d.c ((m : Int) - (f : Int)) = (t : Int)) := Lib.hid (by rw [HT.out]; split <;> omega)
          rw [HTM.out]
          generalize wr.heap.size = bx at *
          generalize wr.alloc (.cells #[.int .i64 d.v, .int .i64 d.c] dmT) = w7 at *
          clear y0 y1 z0 z1
          go_loopw [10, 46] (fun v10 vi W => ∃ j : Nat, j ≤ t ∧ vi = .int .i64 j ∧ v10 = .int .i64 (f + j : Nat) ∧ Hid (Row W g (fillA a f j d.v) ∧ But w7 W (fun k => k = g))) (fun _ vi _ => t - (intOf vi).toNat)
          case atStart => exact ⟨0, Nat.zero_le _, rfl, rfl, Lib.hid ⟨by rw [fillA_zero]; exact HBX.out.2, But.refl _ _⟩⟩
          case round =>
            obtain ⟨j, hj, rfl, rfl, HJ⟩ := hrel
            by_cases hjt : j < t
            · have i3 : (j : Int) < (t : Int) := by omega
              have x0 := But.cellD HJ.out.2 HBN.out HY0.out
              have d1 : wr.frozen? ⟨g, f + j, none⟩ = false := HJ.out.1.froz _ (by rw [fillA_len, HAL.out]; omega)
              have d0 : wr.cell? ⟨g, f + j, none⟩ = some (.int .i64 ((fillA a f j d.v)[f + j]'(by rw [fillA_len, HAL.out]; omega))) := HJ.out.1.cell _ (by rw [fillA_len, HAL.out]; omega)
              have HS : Hid (Row (wr.setCell ⟨g, f + j, none⟩ (.int .i64 d.v)) g (fillA a f (j + 1) d.v) ∧ But w7 (wr.setCell ⟨g, f + j, none⟩ (.int .i64 d.v)) (fun k => k = g)) := Lib.hid ⟨by
                rw [← fillA_set]
                exact HJ.out.1.set _ (by rw [fillA_len, HAL.out]; omega) _, HJ.out.2.set2 _ _⟩
              have i4 : ((f + j : Nat) : Int) < (m : Int) := by omega
              go_wp2
              go_roundw
              case rel => exact ⟨j + 1, by omega, by go_num, by go_num, HS⟩
              case measure => simp [intOf]; omega
            · have i3 : ¬ (j : Int) < (t : Int) := by omega
              have HS : Hid (CurS s m (k + 1) (f + j) (fillA a f j d.v) ∧ Row wr g (fillA a f j d.v) ∧ But w6 wr (fun k => k = g)) := Lib.hid ⟨by
                have : j = t := by omega
                rw [this]; exact HN.out, HJ.out.1, HBX.out.1.trans HJ.out.2 (fun _ _ h => h)⟩
              have i5 : f + j ≤ m := by omega
              go_wp2
              go_roundw
              case rel => exact ⟨k + 1, f + j, fillA a f j d.v, by omega, i5, by go_num, rfl, HS⟩
              case measure => simp [intOf]; omega
        · have i2 : ¬ (k : Int) < (q : Int) := by omega
          have HF : Hid (CurveR l m a) := Lib.hid (by
            have h1 := HK.out.1.fill
            rw [List.take_of_length_le (by have := HQ.out; omega)] at h1
            exact h1.done.perm HD.out.perm)
          have HI : Hid (IntR wr (.slice (some ⟨g, 0, none⟩) m m) a ∧ Below w.heap.size w wr) := Lib.hid ⟨by
            have h1 := HK.out.2.1.intR (c := m)
            rw [HF.out.len] at h1
            exact h1, HB0.out.trans (HK.out.2.2.below HB0.out.size (fun k hk e => by have := HG.out; omega))⟩
          go_wp2
          go_ret2
          refine ⟨some ⟨g, 0, none⟩, m, a, by rw [HF.out.len, HC.out]; rfl, by rw [HF.out.len]; exact HI.out.1, by rw [HF.out.len]; exact Nat.le_refl _, fun _ => by rw [Int.toNat_natCast]; exact HF.out, fun h => absurd HC.out h, HI.out.2⟩
end Go.Proofs.Ytjogjlfgfohihaa
