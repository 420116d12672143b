/- slices.Clone at cabins and at classes; Find. -/
import Derived.Test.YtkghpapbifijcaaGreatDoorCabJ
import Derived.Test.YtkghpapbifijcaaGreatDoorCabF
import Derived.Deep.RegionWith
import Derived.Deep.CutRange
import Derived.Deep.CutBlock
namespace Go.Proofs.YtkghpapbifijcaaGreatDoor
open Go.RowKit Go.Shelf
set_option linter.unusedSimpArgs false
set_option linter.unusedVariables false

theorem own_form {α : Type} {enc : α → List Value} {e : TypeId} {sz B : Nat} {w : World} {v : Value} {l : List α} (h : ROwn e sz enc B w v l) (hlen : ∀ x, (enc x).length = sz) :
    ∃ A c, v = .slice A l.length c ∧ (l = [] ∨ ∃ g, A = some ⟨g, 0, none⟩ ∧ B ≤ g ∧ g < w.heap.size ∧ (∀ i x j u, l[i]? = some x → (enc x)[j]? = some u → w.cell? ⟨g, i * sz + j, none⟩ = some u) ∧ ∀ j, w.frozen? ⟨g, j, none⟩ = false) := by
  obtain ⟨A, c, hv, hr⟩ := h.rowL hlen
  refine ⟨A, c, hv, ?_⟩
  rcases hr with hr | ⟨b, o, rfl, hlt, hc⟩
  · exact .inl hr
  · rcases h.own.2 with ⟨h1, h2⟩ | ⟨g, cap, cur, h1, h2, h3, _⟩
    · rw [h1] at hv; simp at hv
    · rw [h1] at hv
      simp only [Value.slice.injEq, Option.some.injEq, Addr.mk.injEq, and_true] at hv
      obtain ⟨⟨rfl, rfl⟩, _⟩ := hv
      exact .inr ⟨g, rfl, h2, hlt, fun i x j u hi hu => by have := hc i x j u hi hu; rw [Nat.zero_add] at this; exact this, fun j => frozen_of_row w g j cur e h3⟩

theorem nil_yesCl (n c : Nat) (w : World) : (binOp .eql 94 (.slice none n c) (.slice none 0 0)).run Tryz.prog w = .ok (.bool true) w := by kernel_rfl
theorem nil_noCl (a : Addr) (n c : Nat) (w : World) : (binOp .eql 94 (.slice (some a) n c) (.slice none 0 0)).run Tryz.prog w = .ok (.bool false) w := by kernel_rfl
set_option maxRecDepth 100000 in
set_option maxHeartbeats 2000000 in
theorem cloneCl_any (A : Option Addr) (c : Nat) (l : List Cl) (w : World) (hl : l.length ≤ 1000) (hL : RowL 2 encCl w (.slice A l.length c) l) :
    Calls Tryz.prog 92 #[.slice A l.length c] w fun e w' => ∃ v', e = .returned v' ∧ ROwn clT 2 encCl w.heap.size w' v' l ∧ Below w.heap.size w w' := by
  cases A with
  | none =>
    have h0 : l = [] := by
      obtain ⟨A', c', h1, h2⟩ := hL
      simp only [Value.slice.injEq] at h1
      obtain ⟨rfl, _, rfl⟩ := h1
      rcases h2 with h | ⟨b, o, h, _⟩
      · exact h
      · cases h
    subst h0
    have n1 := nil_yesCl 0 c w
    go_enter Tryz.func92, Tryz.ntmps92
    go_wp2
    go_ret
    exact ⟨_, rfl, ROwn.nil (Nat.le_refl _), Below.refl _ _⟩
  | some ad =>
    have n1 := nil_noCl ad l.length c w
    have hb0 := bel_alloc w (.cells #[] clT)
    have HO := Lib.hid (ROwn.new (e := clT) (sz := 2) (enc := encCl) (B := w.heap.size) (w := w) (Nat.le_refl _) [] (fun x => rfl) (cs := #[]) rfl (by simp))
    have HL := Lib.hid (hL.more hb0)
    clear hL
    go_enter Tryz.func92, Tryz.ntmps92
    go_wp2_with (at_builtin; refine wpList_rappl rowCl rfl _ _ rfl HO.out rfl l _ rfl HL.out (by simp; omega) ?_; intro v' w' hO1 hC1; refine Hid.out ?_)
    have HR : Hid (ROwn clT 2 encCl w.heap.size w' v' l ∧ Below w.heap.size w w') := Lib.hid ⟨by simpa using hO1, hb0.trans (hC1.below HO.out)⟩
    clear hO1 hC1
    refine Lib.hid ?_
    go_wp2
    go_ret
    exact ⟨_, rfl, HR.out⟩

theorem nil_yesCb (n c : Nat) (w : World) : (binOp .eql 79 (.slice none n c) (.slice none 0 0)).run Tryz.prog w = .ok (.bool true) w := by kernel_rfl
theorem nil_noCb (a : Addr) (n c : Nat) (w : World) : (binOp .eql 79 (.slice (some a) n c) (.slice none 0 0)).run Tryz.prog w = .ok (.bool false) w := by kernel_rfl
set_option maxRecDepth 100000 in
set_option maxHeartbeats 2000000 in
theorem cloneCb_any (A : Option Addr) (c : Nat) (l : List Cb) (w : World) (hl : l.length ≤ 1000) (hL : RowL 4 encCb w (.slice A l.length c) l) :
    Calls Tryz.prog 91 #[.slice A l.length c] w fun e w' => ∃ v', e = .returned v' ∧ ROwn cbT 4 encCb w.heap.size w' v' l ∧ Below w.heap.size w w' := by
  cases A with
  | none =>
    have h0 : l = [] := by
      obtain ⟨A', c', h1, h2⟩ := hL
      simp only [Value.slice.injEq] at h1
      obtain ⟨rfl, _, rfl⟩ := h1
      rcases h2 with h | ⟨b, o, h, _⟩
      · exact h
      · cases h
    subst h0
    have n1 := nil_yesCb 0 c w
    go_enter Tryz.func91, Tryz.ntmps91
    go_wp2
    go_ret
    exact ⟨_, rfl, ROwn.nil (Nat.le_refl _), Below.refl _ _⟩
  | some ad =>
    have n1 := nil_noCb ad l.length c w
    have hb0 := bel_alloc w (.cells #[] cbT)
    have HO := Lib.hid (ROwn.new (e := cbT) (sz := 4) (enc := encCb) (B := w.heap.size) (w := w) (Nat.le_refl _) [] (fun x => rfl) (cs := #[]) rfl (by simp))
    have HL := Lib.hid (hL.more hb0)
    clear hL
    go_enter Tryz.func91, Tryz.ntmps91
    go_wp2_with (at_builtin; refine wpList_rappl rowCb rfl _ _ rfl HO.out rfl l _ rfl HL.out (by simp; omega) ?_; intro v' w' hO1 hC1; refine Hid.out ?_)
    have HR : Hid (ROwn cbT 4 encCb w.heap.size w' v' l ∧ Below w.heap.size w w') := Lib.hid ⟨by simpa using hO1, hb0.trans (hC1.below HO.out)⟩
    clear hO1 hC1
    refine Lib.hid ?_
    go_wp2
    go_ret
    exact ⟨_, rfl, HR.out⟩

/-! ### plain: a copy of a configuration -/
def pcb (b : Cb) : ByteArray × Int × Int × List Cl := (b.name, b.seats, b.over, b.l)
/-- the same configuration, wherever it lies -/
structure SamC (f g : Cf) : Prop where
  eq : f.equip = g.equip
  l : f.l.map pcb = g.l.map pcb
theorem SamC.refl (f : Cf) : SamC f f := ⟨rfl, rfl⟩
theorem pcb_set {L : List Cb} {k : Nat} {b b' : Cb} (h : L[k]? = some b) (he : pcb b' = pcb b) : (L.set k b').map pcb = L.map pcb := by
  apply List.ext_getElem?
  intro i
  rw [List.getElem?_map, List.getElem?_map, List.getElem?_set]
  by_cases e : k = i
  · subst e
    have hk := (List.getElem?_eq_some_iff.1 h).1
    rw [if_pos rfl, if_pos hk, h]
    simp [he]
  · rw [if_neg e]
def cfZ : Cf := ⟨noB, none, 0, []⟩
def findQ (l : List Cf) (s : ByteArray) : Option Cf := l.find? fun f => eqS f.equip s
/-- block G holds the cabins L, and may be written; their classes lie elsewhere -/
structure CbRow (W : World) (G : Nat) (L : List Cb) : Prop where
  cell : ∀ i b j u, L[i]? = some b → (encCb b)[j]? = some u → W.cell? ⟨G, i * 4 + j, none⟩ = some u
  froz : ∀ j, W.frozen? ⟨G, j, none⟩ = false
  lt : G < W.heap.size
  cls : ∀ b ∈ L, CbAt W b ∧ (b.l = [] ∨ ∀ g o, b.A = some ⟨g, o, none⟩ → g ≠ G)
theorem frozen_bel {w w' : World} {a : Addr} (h : Below w.heap.size w w') (hlt : a.block < w.heap.size) : w'.frozen? a = w.frozen? a := h.frozen hlt
theorem CbRow.more {W W' : World} {G : Nat} {L : List Cb} (h : CbRow W G L) (hb : Below W.heap.size W W') : CbRow W' G L :=
  ⟨fun i b j u hi hu => bel_cell hb (h.cell i b j u hi hu), fun j => (hb.frozen (p := ⟨G, j, none⟩) h.lt).trans (h.froz j), Nat.lt_of_lt_of_le h.lt hb.size, fun b hm => ⟨(h.cls b hm).1.more hb, (h.cls b hm).2⟩⟩
theorem RowL.other {α : Type} {enc : α → List Value} {sz : Nat} {W : World} {A : Option Addr} {n c : Nat} {l : List α} (h : RowL sz enc W (.slice A n c) l) {G : Nat} (hne : l = [] ∨ ∀ g o, A = some ⟨g, o, none⟩ → g ≠ G) (q : Nat) (x : Value) : RowL sz enc (W.setCell ⟨G, q, none⟩ x) (.slice A n c) l := by
  obtain ⟨A', c', h1, h2⟩ := h
  simp only [Value.slice.injEq] at h1
  obtain ⟨rfl, rfl, rfl⟩ := h1
  refine ⟨_, _, rfl, ?_⟩
  rcases h2 with h | ⟨b, o, rfl, hlt, hc⟩
  · exact .inl h
  · rcases hne with hne | hne
    · exact .inl hne
    · refine .inr ⟨b, o, rfl, by simpa using hlt, fun i x' j u hi hu => ?_⟩
      rw [World.cell?_setCell_other _ _ _ _ (by intro e; simp only [Addr.mk.injEq] at e; exact hne b o rfl e.1.symm)]
      exact hc i x' j u hi hu
theorem CbRow.set {W : World} {G : Nat} {L : List Cb} (h : CbRow W G L) {k : Nat} {b : Cb} (hb : L[k]? = some b) (A' : Option Addr) (c' : Nat) (hcl : ClL W (.slice A' b.l.length c') b.l) (hne : b.l = [] ∨ ∀ g o, A' = some ⟨g, o, none⟩ → g ≠ G) :
    CbRow (W.setCell ⟨G, k * 4 + 3, none⟩ (.slice A' b.l.length c')) G (L.set k { b with A := A', c := c' }) := by
  have hk := (List.getElem?_eq_some_iff.1 hb).1
  refine ⟨fun i x j u hi hu => ?_, fun j => by rw [World.frozen?_setCell]; exact h.froz j, by have := h.lt; simpa using this, fun x hx => ?_⟩
  · have hj : j < 4 := by have := (List.getElem?_eq_some_iff.1 hu).1; simpa [encCb] using this
    rw [List.getElem?_set] at hi
    by_cases e : k = i
    · subst e
      rw [if_pos rfl, if_pos hk] at hi
      cases hi
      by_cases e3 : j = 3
      · subst e3
        have hu' : u = .slice A' b.l.length c' := by simpa [encCb] using hu.symm
        rw [hu', World.cell?_setCell_same _ _ _ (h.cell k b 3 _ hb rfl)]
      · rw [World.cell?_setCell_other _ _ _ _ (by intro e; simp only [Addr.mk.injEq] at e; omega)]
        refine h.cell k b j u hb ?_
        have h3 : j = 0 ∨ j = 1 ∨ j = 2 := by omega
        rcases h3 with rfl | rfl | rfl <;> simpa [encCb] using hu
    · rw [if_neg e] at hi
      rw [World.cell?_setCell_other _ _ _ _ (by intro e'; simp only [Addr.mk.injEq] at e'; omega)]
      exact h.cell i x j u hi hu
  · rcases List.mem_or_eq_of_mem_set hx with hm | rfl
    · exact ⟨RowL.other (h.cls x hm).1 (h.cls x hm).2 _ _, (h.cls x hm).2⟩
    · exact ⟨RowL.other hcl hne _ _, hne⟩
theorem CbRow.cbL {W : World} {G : Nat} {L : List Cb} (h : CbRow W G L) (c : Nat) : CbL W (.slice (some ⟨G, 0, none⟩) L.length c) L :=
  ⟨⟨_, _, rfl, .inr ⟨G, 0, rfl, h.lt, fun i x j u hi hu => by rw [Nat.zero_add]; exact h.cell i x j u hi hu⟩⟩, fun b hm => (h.cls b hm).1⟩
theorem CbL.other {W : World} {A : Option Addr} {n c : Nat} {L : List Cb} (h : CbL W (.slice A n c) L) {G : Nat} (h1 : L = [] ∨ ∀ g o, A = some ⟨g, o, none⟩ → g ≠ G) (h2 : ∀ b ∈ L, b.l = [] ∨ ∀ g o, b.A = some ⟨g, o, none⟩ → g ≠ G) (q : Nat) (x : Value) : CbL (W.setCell ⟨G, q, none⟩ x) (.slice A n c) L :=
  ⟨RowL.other h.1 h1 q x, fun b hm => RowL.other (h.2 b hm) (h2 b hm) q x⟩
theorem RowL.blk {α : Type} {enc : α → List Value} {sz : Nat} {W : World} {A : Option Addr} {n c : Nat} {l : List α} (h : RowL sz enc W (.slice A n c) l) : l = [] ∨ ∀ g o, A = some ⟨g, o, none⟩ → g < W.heap.size := by
  obtain ⟨A', c', h1, h2⟩ := h
  simp only [Value.slice.injEq] at h1
  obtain ⟨rfl, rfl, rfl⟩ := h1
  rcases h2 with h | ⟨b, o, rfl, hlt, hc⟩
  · exact .inl h
  · exact .inr (fun g o h => by cases h; exact hlt)
/-- what is found: a copy of the first configuration with the equipment -/
def FindO (o : Option Cf) (e : Ending) (w' : World) : Prop := ∃ f : Cf, e = .returned (.tuple #[aggCf f, .bool o.isSome]) ∧ CfAt w' f ∧ SamC f (o.getD cfZ)
theorem row2_cells {W : World} {N : Nat} {a b : Value} {t : TypeId} (h : W.heap[N]? = some (.cells #[a, b] t (0, 0))) : W.cell? ⟨N, 0, none⟩ = some a ∧ W.cell? ⟨N, 1, none⟩ = some b ∧ W.frozen? ⟨N, 0, none⟩ = false ∧ W.frozen? ⟨N, 1, none⟩ = false :=
  ⟨cell_of_row W N 0 _ _ (0, 0) h, cell_of_row W N 1 _ _ (0, 0) h, frozen_of_row W N 0 _ _ h, frozen_of_row W N 1 _ _ h⟩

set_option maxRecDepth 100000 in
set_option maxHeartbeats 8000000 in
theorem rfind_any (A : Option Addr) (c : Nat) (l : List Cf) (s : ByteArray) (w : World) (hv : CfL w (.slice A l.length c) l) (hn : l.length ≤ 8) :
    Calls Tryz.prog 73 #[.slice A l.length c, .string s] w fun e w' => FindO (findQ l s) e w' ∧ Below w.heap.size w w' := by
  have HV := Lib.hid hv
  clear hv
  have hb0 := bel_alloc w (.cells #[.string noB, .slice none 0 0] cfT)
  have hN := heap_alloc_new w (.cells #[.string noB, .slice none 0 0] cfT)
  obtain ⟨R, hR⟩ : ∃ R, R = w.heap.size := ⟨_, rfl⟩
  rw [← hR] at hN
  have HQ : Hid (∀ k, (∀ (j : Nat) (x : Cf), j < k → l[j]? = some x → eqS x.equip s = false) → (∀ a, l[k]? = some a → eqS a.equip s = true → findQ l s = some a) ∧ (l.length ≤ k → findQ l s = none)) := Lib.hid (fun k h => by
    rcases idxQ_find (fun f : Cf => eqS f.equip s) l with ⟨_, h2, h3⟩ | ⟨m, b, h1, h2, h3, h4, h5, h6⟩
    · exact ⟨fun a ha he => (by rw [h3 k a ha] at he; cases he), fun _ => h2⟩
    · have hmk : ∀ a, l[k]? = some a → eqS a.equip s = true → m = k := fun a ha he => by
        rcases Nat.lt_trichotomy m k with hlt | he' | hlt
        · rw [h m b hlt h2] at h5; cases h5
        · exact he'
        · rw [h6 k a hlt ha] at he; cases he
      refine ⟨fun a ha he => ?_, fun hk => ?_⟩
      · have := hmk a ha he
        subst this
        rw [ha] at h2
        cases h2
        exact h3
      · rw [h m b (by omega) h2] at h5; cases h5)
  go_enter Tryz.func73, Tryz.ntmps73
  go_upto_region 1 with fail
  rw [← hR]
  have HB5 := Lib.hid hb0
  have HR := Lib.hid hR
  generalize w.alloc (.cells #[.string noB, .slice none 0 0] cfT) = w5 at *
  clear hb0 hR
  have HN := Lib.hid hN
  clear hN
  go_wp2
  go_loopg [6] l.length (fun kx v6 wr => ∃ i : Nat, v6 = .int .i64 i ∧ i + kx = l.length ∧ Hid (∀ (j : Nat) (x : Cf), j < i → l[j]? = some x → eqS x.equip s = false) ∧ wr = w5)
  case atStart => exact ⟨0, rfl, by omega, Lib.hid (fun j x hj => absurd hj (Nat.not_lt_zero _)), rfl⟩
  case round =>
    obtain ⟨i, rfl, hix, HK, rfl⟩ := hrel
    have HIX := Lib.hid hix
    have hi8 : i ≤ 8 := by omega
    by_cases hlt : i < l.length
    · obtain ⟨f, hf⟩ : ∃ f, l[i]? = some f := ⟨_, List.getElem?_eq_getElem hlt⟩
      obtain ⟨b1, o1, e1, hgl, hc⟩ := row_get (HV.out.more HB5.out).1 hf
      cases e1
      have i2 : (i : Int) < (l.length : Int) := by omega
      have z0 := hc 0 _ rfl
      have z1 := hc 1 _ rfl
      rw [Nat.add_zero] at z0
      have HF := Lib.hid hf
      clear hc hgl hix
      cases he : (f.equip.toList == s.toList) with
      | true =>
        have HFi := Lib.hid ((HQ.out i HK.out).1 f hf he)
        obtain ⟨n0, n1, m0, m1⟩ := row2_cells HN.out
        have hx := S2.heap HN.out (.string f.equip) (.slice f.A f.l.length f.c)
        have hbt := S2.but wr R (.string f.equip) (.slice f.A f.l.length f.c)
        have hbw : Below w.heap.size w ((wr.setCell ⟨R, 0, none⟩ (.string f.equip)).setCell ⟨R, 1, none⟩ (.slice f.A f.l.length f.c)) := HB5.out.trans (hbt.below HB5.out.size (fun k hk => by have := HR.out; omega))
        have hAt : CfAt ((wr.setCell ⟨R, 0, none⟩ (.string f.equip)).setCell ⟨R, 1, none⟩ (.slice f.A f.l.length f.c)) f := (HV.out.2 f (List.mem_of_getElem? hf)).more hbw
        obtain ⟨c0, c1, _, _⟩ := row2_cells hx
        have HX := Lib.hid (And.intro hAt hbw)
        clear hf hx hbt hbw hAt
        go_wp2
        refine bodyPost_ret (v := .tuple #[aggCf f, .bool true]) ?_ rfl ⟨⟨f, by rw [HFi.out]; rfl, HX.out.1, by rw [HFi.out]; exact SamC.refl f⟩, HX.out.2⟩
        generalize (wr.setCell ⟨R, 0, none⟩ (.string f.equip)).setCell ⟨R, 1, none⟩ (.slice f.A f.l.length f.c) = WW at c0 c1 ⊢
        simp [results, Tryz.results73, go_sem, c0, c1]
      | false =>
        have HK2 : Hid (∀ (j : Nat) (x : Cf), j < i + 1 → l[j]? = some x → eqS x.equip s = false) := Lib.hid (fun j x hj hx => by
          by_cases hji : j = i
          · subst hji
            rw [HF.out] at hx
            cases hx
            exact he
          · exact HK.out j x (by omega) hx)
        clear hf
        go_wp2
        go_roundg (l.length - (i + 1))
        case measure => have := HIX.out; omega
        case rel => exact ⟨i + 1, by go_num, by have := HIX.out; omega, HK2, by first | rfl | trivial⟩
    · have HFi := Lib.hid ((HQ.out i HK.out).2 (by omega))
      obtain ⟨n0, n1, m0, m1⟩ := row2_cells HN.out
      have hx := S2.heap HN.out (.string noB) (.slice none 0 0)
      have hbt := S2.but wr R (.string noB) (.slice none 0 0)
      have hbw : Below w.heap.size w ((wr.setCell ⟨R, 0, none⟩ (.string noB)).setCell ⟨R, 1, none⟩ (.slice none 0 0)) := HB5.out.trans (hbt.below HB5.out.size (fun k hk => by have := HR.out; omega))
      obtain ⟨c0, c1, _, _⟩ := row2_cells hx
      have HX := Lib.hid hbw
      have i2 : ¬ (i : Int) < (l.length : Int) := by omega
      clear hx hbt hbw
      go_wp2
      refine bodyPost_ret (v := .tuple #[aggCf cfZ, .bool false]) ?_ rfl ⟨⟨cfZ, by rw [HFi.out]; rfl, ⟨⟨none, 0, rfl, .inl rfl⟩, fun b hb => by cases hb⟩, by rw [HFi.out]; exact SamC.refl cfZ⟩, HX.out⟩
      generalize (wr.setCell ⟨R, 0, none⟩ (.string noB)).setCell ⟨R, 1, none⟩ (.slice none 0 0) = WW at c0 c1 ⊢
      simp [results, Tryz.results73, go_sem, c0, c1, cfZ]
end Go.Proofs.YtkghpapbifijcaaGreatDoor
