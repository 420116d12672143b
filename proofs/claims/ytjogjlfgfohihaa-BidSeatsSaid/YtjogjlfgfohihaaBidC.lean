/- A demand in descending order of its values. -/
import Derived.Test.YtjogjlfgfohihaaBidB
import Derived.Test.YtjogjlfgfohihaaShelf
import Derived.Test.YtjogjlfgfohihaaSortd
import Derived.Shelf.SlSortCmp.WholeK
namespace Go.Proofs.Ytjogjlfgfohihaa
open Go.RowKit Go.Shelf Go.Lib Go.Sort
set_option linter.unusedSimpArgs false
set_option linter.unusedVariables false

abbrev dmT : TypeId := 40
theorem rtDm : RT Try.prog 22 dmT 2 encD where
  ht := Try.underlying22
  info := ⟨.agg #[.int .i64 0, .int .i64 0], 16, by kernel_rfl, rfl, by omega⟩
  len x := rfl
  one x u hu := by simp [encD] at hu; rcases hu with rfl | rfl <;> rfl
  pos := by omega
theorem nilD_yes (n c : Nat) (w : World) : (binOp .eql 22 (.slice none n c) (.slice none 0 0)).run Try.prog w = .ok (.bool true) w := by kernel_rfl
theorem nilD_no (a : Addr) (n c : Nat) (w : World) : (binOp .eql 22 (.slice (some a) n c) (.slice none 0 0)).run Try.prog w = .ok (.bool false) w := by kernel_rfl
abbrev DmL (w : World) (v : Value) (l : List Dm) : Prop := RowL 2 encD w v l
set_option maxRecDepth 100000 in
set_option maxHeartbeats 2000000 in
theorem cloneD_any (A : Option Addr) (c : Nat) (l : List Dm) (w : World) (hl : l.length ≤ 1000) (hL : DmL w (.slice A l.length c) l) :
    Calls Try.prog 25 #[.slice A l.length c] w fun e w' => ∃ v', e = .returned v' ∧ ROwn dmT 2 encD w.heap.size w' v' l ∧ Below w.heap.size w w' := by
  cases A with
  | none =>
    have h0 : l = [] := by
      obtain ⟨A', c', h1, h2⟩ := hL
      simp only [Value.slice.injEq] at h1
      obtain ⟨rfl, _, rfl⟩ := h1
      rcases h2 with h | ⟨b, o, h, _⟩
      · exact h
      · cases h
    subst h0
    have n1 := nilD_yes 0 c w
    go_enter Try.func25, Try.ntmps25
    go_wp2
    go_ret
    exact ⟨_, rfl, ROwn.nil (Nat.le_refl _), Below.refl _ _⟩
  | some ad =>
    have n1 := nilD_no ad l.length c w
    have hb0 := bel_alloc w (.cells #[] dmT)
    have HO := Lib.hid (ROwn.new (e := dmT) (sz := 2) (enc := encD) (B := w.heap.size) (w := w) (Nat.le_refl _) [] (fun x => rfl) (cs := #[]) rfl (by simp))
    have HL := Lib.hid (hL.more hb0)
    clear hL
    go_enter Try.func25, Try.ntmps25
    go_wp2_with (at_builtin; refine wpList_rappl rtDm rfl _ _ rfl HO.out rfl l _ rfl HL.out (by simp; omega) ?_; intro v' w' hO1 hC1; refine Hid.out ?_)
    have HR : Hid (ROwn dmT 2 encD w.heap.size w' v' l ∧ Below w.heap.size w w') := Lib.hid ⟨by simpa using hO1, hb0.trans (hC1.below HO.out)⟩
    clear hO1 hC1
    refine Lib.hid ?_
    go_wp2
    go_ret
    exact ⟨_, rfl, HR.out⟩

/-- the order of demands: the dearest first -/
abbrev cmD (x y : Dm) : Int := Lib.compareInt y.v x.v
theorem cmD_lt (x y : Dm) : ltOf cmD x y = decide (y.v < x.v) := by
  unfold ltOf cmD Lib.compareInt
  by_cases h1 : y.v < x.v
  · simp [h1]
  · by_cases h2 : x.v < y.v <;> simp [h1, h2]
theorem cmD_swo : SWO (ltOf cmD) where
  irrefl x := by rw [cmD_lt]; simp
  trans x y z h1 h2 := by rw [cmD_lt] at *; simp at *; omega
  ntrans x y z h1 h2 := by rw [cmD_lt] at *; simp at *; omega
set_option maxHeartbeats 1000000 in
theorem cmpD_any (x y : Dm) (w : World) : Calls Try.prog 27 #[.agg #[.int .i64 x.v, .int .i64 x.c], .agg #[.int .i64 y.v, .int .i64 y.c]] w fun e w' => e = .returned (.int .i64 (cmD x y)) ∧ ∃ q os', w' = grow (w.drewN q) os' := by
  have hcon := fun W' => Try.cmp_Compare_int y.v x.v W'
  show Calls _ _ _ _ fun e w' => e = .returned (.int .i64 (Lib.compareInt y.v x.v)) ∧ _
  generalize Lib.compareInt y.v x.v = r at hcon ⊢
  go_enter Try.func27, Try.ntmps27
  go_wp2_with (go_at_call 28; refine (hcon _).mono ?_; rintro e w' ⟨rfl, rfl⟩)
  go_ret
  exact ⟨rfl, 0, _, by rw [alloc_eq_grow, alloc_eq_grow, grow_grow]; rfl⟩
theorem own_cellsD {B : Nat} {w : World} {g n cap : Nat} {l : List Dm} (h : ROwn dmT 2 encD B w (.slice (some ⟨g, 0, none⟩) n cap) l) : ∃ cur, w.heap[g]? = some (.cells cur dmT (0, 0)) := by
  rcases h.own.2 with ⟨a, _⟩ | ⟨g', cap', cur, e1, _, hg, _⟩
  · cases a
  · cases e1; exact ⟨cur, hg⟩
instance : Inhabited Dm := ⟨⟨0, 0⟩⟩
theorem belowD {w W' : World} {g off B : Nat} {d : Array Dm} (S : SWK encD 2 w g off d W') (hg : B ≤ g) (hB : B ≤ w.heap.size) : Below B w W' := by
  obtain ⟨n, os, rfl⟩ := S
  refine ⟨rfl, rfl, rfl, ?_, fun k hk => ?_⟩
  · unfold sortWorldK putRowK; simp
  · unfold sortWorldK putRowK
    rw [Go.Sort.heap_grow_old _ _ (by simp; omega)]
    have : g ≠ k := by omega
    simp [putRow, mapBlock, Sort.ahead, Array.getElem?_modify, this]
/-- l' is l, the dearest first, and v holds it -/
structure Dear (B : Nat) (l : List Dm) (w' : World) (v : Value) (l' : List Dm) : Prop where
  perm : l'.Perm l
  ord : ∀ (i j : Nat) (x y : Dm), i < j → l'[i]? = some x → l'[j]? = some y → y.v ≤ x.v
  row : DmL w' v l'
  fresh : l' = [] ∨ ∀ b o n c, v = .slice (some ⟨b, o, none⟩) n c → B ≤ b
set_option maxRecDepth 100000 in
set_option maxHeartbeats 4000000 in
/-- nothing to sort -/
theorem sort0_any (g : Value) (w : World) : Calls Try.prog 26 #[.slice none 0 0, g] w fun e w' => e = .returned (.tuple #[]) ∧ w' = w := by
  have KL : Hid (∀ W, Calls Try.prog 30 #[.int .u64 0] W fun e w' => e = .returned (.int .i64 0) ∧ w' = W) := Lib.hid (fun W => Try.bits_Len 0 W (by omega) (by omega))
  have KI : Hid (∀ W, Calls Try.prog 32 #[.slice none 0 0, .int .i64 0, .int .i64 0, g] W fun e w' => e = .returned (.tuple #[]) ∧ w' = W) := Lib.hid (fun W => by
    go_enter Try.func32, Try.ntmps32
    go_wp2
    go_loopw [8] (fun vi wr => vi = .int .i64 1 ∧ wr = W) (fun _ _ => 0)
    case atStart => exact ⟨rfl, rfl⟩
    case round =>
      obtain ⟨rfl, rfl⟩ := hrel
      go_wp2
      refine bodyPost_end (results_none rfl _ _ _) rfl ⟨rfl, rfl⟩)
  have KP : Hid (∀ W, Calls Try.prog 29 #[.slice none 0 0, .int .i64 0, .int .i64 0, .int .i64 0, g] W fun e w' => e = .returned (.tuple #[]) ∧ w' = W) := Lib.hid (fun W => by
    go_enter Try.func29, Try.ntmps29
    go_wp2
    go_loopw [1, 2, 3] (fun v1 v2 v3 wr => v1 = .int .i64 0 ∧ v2 = .int .i64 0 ∧ v3 = .int .i64 0 ∧ wr = W) (fun _ _ _ _ => 0)
    case atStart => exact ⟨rfl, rfl, rfl, rfl⟩
    case round =>
      obtain ⟨rfl, rfl, rfl, rfl⟩ := hrel
      go_wp2_with (go_at_call 32; refine (KI.out _).mono ?_; rintro e w' ⟨rfl, rfl⟩)
      refine bodyPost_ret (results_none rfl _ _ _) rfl ⟨rfl, rfl⟩)
  go_enter Try.func26, Try.ntmps26
  go_wp2_with (first | (go_at_call 30; refine (KL.out _).mono ?_; rintro e w' ⟨rfl, rfl⟩) | (go_at_call 29; refine (KP.out _).mono ?_; rintro e w' ⟨rfl, rfl⟩))
  refine bodyPost_end (results_none rfl _ _ _) rfl ⟨rfl, rfl⟩
theorem own_two {B : Nat} {w : World} {v : Value} {l : List Dm} (h : ROwn dmT 2 encD B w v l) : (v = .slice none 0 0 ∧ l = []) ∨ ∃ g cap cur, v = .slice (some ⟨g, 0, none⟩) l.length cap ∧ B ≤ g ∧ w.heap[g]? = some (.cells cur dmT (0, 0)) := by
  rcases h.own.2 with ⟨a, b⟩ | ⟨g', cap', cur, e1, hg0, hg, hq⟩
  · left
    refine ⟨a, ?_⟩
    cases l with
    | nil => rfl
    | cons x r => simp [cellsR] at b
  · right
    exact ⟨g', cap', cur, e1, hg0, hg⟩
set_option maxHeartbeats 2000000 in
set_option maxRecDepth 100000 in
theorem sortD_any (l : List Dm) (v : Value) (B : Nat) (w : World) (hO : ROwn dmT 2 encD B w v l) (hl : l.length ≤ 1000) :
    Calls Try.prog 26 #[v, .func (.func 27) #[] #[]] w fun e w' => e = .returned (.tuple #[]) ∧ (∃ l', Dear B l w' v l') ∧ Below B w w' := by
  rcases own_two hO with ⟨rfl, rfl⟩ | ⟨g, cap, cur, rfl, hBg, hcs⟩
  · refine (sort0_any _ w).mono ?_
    rintro e w' ⟨rfl, rfl⟩
    exact ⟨rfl, ⟨[], ⟨List.Perm.refl _, fun i j x y _ h => by simp at h, ⟨none, 0, rfl, .inl rfl⟩, .inl rfl⟩⟩, Below.refl _ _⟩
  have hgs : g < w.heap.size := (Array.getElem?_eq_some_iff.1 hcs).1
  have hcell : ∀ i (hi : i < l.length) j u, (encD l[i])[j]? = some u → w.cell? ⟨g, 0 + i * 2 + j, none⟩ = some u := fun i hi j u hu => by
    have h2 := hO.own.cells (g := g) rfl _ _ (cellsR_at rtDm.len l i j l[i] u (List.getElem?_eq_getElem hi) hu)
    rw [Addr.add_lit] at h2
    simpa using h2
  have hH : HoldsK encD 2 w g 0 l.toArray := by
    intro t ht
    rw [size_flatK] at ht
    simp only [List.size_toArray] at ht
    have hi : t / 2 < l.length := by omega
    have e1 : (flatK encD 2 l.toArray)[t]! = (encD l[t / 2])[t % 2]! := by
      rw [get_flatK _ _ _ _ (by simpa using ht)]
      congr 2
      rw [getElem!_pos _ _ (by simpa using hi)]
      simp
    have hm : t % 2 < (encD l[t / 2]).length := by rw [rtDm.len]; omega
    refine ⟨?_, frozen_of_row _ _ _ _ _ hcs⟩
    rw [e1, getElem!_pos (encD l[t / 2]) (t % 2) hm]
    have h3 := hcell (t / 2) hi (t % 2) _ (List.getElem?_eq_getElem hm)
    rw [show 0 + t / 2 * 2 + t % 2 = 0 + t from by omega] at h3
    exact h3
  have hcmp : CmpLays Try.prog 27 #[] encD 2 cmD g 0 l.toArray.size w := fun m os dk _ x y => cmpD_any x y _
  have C := AnyQ.slices_SortFunc Try.sortD 2 (fun w => Try.isAgg40 w) (fun w => Try.sizeOf40 w) encD rtDm.len rtDm.one cmD cmD_swo 27 #[] g 0 cap l.toArray w (enters_of Try.func27 (by kernel_rfl) rfl) hcmp hH hgs (by simp; omega)
  change Calls Try.prog 26 _ _ _ at C
  simp only [List.size_toArray] at C
  refine C.mono ?_
  rintro e w' ⟨rfl, d', n, os, hp, hs, rfl⟩
  have hS : SWK encD 2 w g 0 d' (sortWorldK encD 2 w g 0 n d' os) := ⟨n, os, rfl⟩
  have hsz : d'.size = l.length := by have := hp.1; simpa using this
  have hH2 := hS.holds hgs hH (by simpa using hsz)
  refine ⟨rfl, ⟨d'.toList, ?_, ?_, ?_, .inr (fun b o n c e => by cases e; exact hBg)⟩, belowD hS hBg hO.base⟩
  · have h2 := hp.2.2
    have e1 : d'.extract 0 l.length = d' := by rw [← hsz]; exact Array.extract_size
    have e2 : l.toArray.extract 0 l.length = l.toArray := by
      have : l.length = l.toArray.size := by simp
      rw [this]; exact Array.extract_size
    rw [e1, e2] at h2
    simpa using h2
  · intro i j x y hij hx hy
    have hjl := (List.getElem?_eq_some_iff.1 hy).1
    simp only [Array.length_toList] at hjl
    have h3 := hs i j (Nat.zero_le _) hij (by omega)
    rw [getElem!_pos d' j hjl, getElem!_pos d' i (show i < d'.size by omega), cmD_lt] at h3
    rw [Array.getElem?_toList, Array.getElem?_eq_getElem (by omega)] at hx hy
    cases hx
    cases hy
    simpa using h3
  · refine ⟨some ⟨g, 0, none⟩, cap, by simp [hsz], .inr ⟨g, 0, rfl, hS.lt hgs, fun i x j u hi hu => ?_⟩⟩
    have hil := (List.getElem?_eq_some_iff.1 hi).1
    simp only [Array.length_toList] at hil
    rw [Array.getElem?_toList, Array.getElem?_eq_getElem hil] at hi
    cases hi
    have hj : j < 2 := by have := (List.getElem?_eq_some_iff.1 hu).1; simpa [encD] using this
    have h4 := (hH2 (i * 2 + j) (by rw [size_flatK]; omega)).1
    rw [get_flatK _ _ _ _ (by omega), show (i * 2 + j) / 2 = i by omega, show (i * 2 + j) % 2 = j by omega, getElem!_pos d' i hil, getElem!_pos (encD d'[i]) j (by simp [encD]; omega)] at h4
    obtain ⟨_, hu2⟩ := List.getElem?_eq_some_iff.1 hu
    rw [show 0 + i * 2 + j = 0 + (i * 2 + j) from by omega, h4, hu2]
    rfl
set_option maxRecDepth 100000 in
set_option maxHeartbeats 2000000 in
theorem dearest_any (A : Option Addr) (c : Nat) (l : List Dm) (w : World) (hl : l.length ≤ 1000) (hL : DmL w (.slice A l.length c) l) :
    Calls Try.prog 22 #[.slice A l.length c] w fun e w' => ∃ v' l', e = .returned v' ∧ Dear w.heap.size l w' v' l' ∧ Below w.heap.size w w' := by
  have KC := Lib.hid (cloneD_any A c l w hl hL)
  have KS : Hid (∀ v' w1, ROwn dmT 2 encD w.heap.size w1 v' l → Calls Try.prog 26 #[v', .func (.func 27) #[] #[]] w1 fun e w' => e = .returned (.tuple #[]) ∧ (∃ l', Dear w.heap.size l w' v' l') ∧ Below w.heap.size w1 w') := Lib.hid (fun v' w1 h => sortD_any l v' _ w1 h hl)
  clear hL
  go_enter Try.func22, Try.ntmps22
  go_wp2_with (first
    | (go_at_call 25; refine KC.out.mono ?_; rintro e w1 ⟨v1, rfl, hO, hb⟩; have HO := Lib.hid hO; have HB := Lib.hid hb; clear hO hb)
    | (go_at_call 26; refine (KS.out _ _ HO.out).mono ?_; rintro e w2 ⟨rfl, hd, hb2⟩; have HD := Lib.hid hd; have HB2 := Lib.hid hb2; clear hd hb2))
  go_ret
  obtain ⟨l', hd⟩ := HD.out
  exact ⟨_, l', rfl, hd, HB.out.trans HB2.out⟩
end Go.Proofs.Ytjogjlfgfohihaa
