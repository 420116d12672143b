/- ConW, ConX, ConQ in one text. -/
import Derived.Test.YtkcdifanhdakhaaDoorConC
import Derived.Test.YtkcdifanhdakhaaDoorConI
import Derived.Test.YtkcdifanhdakhaaDoorShelf
/- slices.SortFunc at journeys. -/
namespace Go.Proofs.YtkcdifanhdakhaaDoor.Con
open Go.RowKit Go.Shelf Go.Lib Go.Sort
set_option linter.unusedSimpArgs false
set_option linter.unusedVariables false

/-! ### the order of journeys -/
theorem cmpI_lt (x y : Int) : Lib.compareInt x y < 0 ↔ x < y := by unfold Lib.compareInt; split <;> (try split) <;> omega
theorem cmpI_ne (x y : Int) : Lib.compareInt x y ≠ 0 ↔ x ≠ y := by unfold Lib.compareInt; split <;> (try split) <;> omega
theorem cmpI_zero (x y : Int) : Lib.compareInt x y = 0 ↔ x = y := by unfold Lib.compareInt; split <;> (try split) <;> omega
theorem cmpI_neg (x y : Int) : Lib.compareInt x y = - Lib.compareInt y x := by unfold Lib.compareInt; split <;> (try split) <;> (try split) <;> (try split) <;> omega
theorem cmpL_cons (a b : Nat) (x y : List Nat) : cmpL (a :: x) (b :: y) = if Lib.compareInt (a : Int) (b : Int) ≠ 0 then Lib.compareInt (a : Int) (b : Int) else cmpL x y := rfl
theorem cmpL_neg : ∀ a b : List Nat, cmpL a b = - cmpL b a
  | [], [] => rfl
  | [], _ :: _ => rfl
  | _ :: _, [] => rfl
  | a :: x, b :: y => by
    have h := cmpI_neg (a : Int) (b : Int)
    have ih := cmpL_neg x y
    rw [cmpL_cons, cmpL_cons]
    by_cases e : Lib.compareInt (a : Int) (b : Int) = 0
    · rw [if_neg (by omega), if_neg (by omega)]; exact ih
    · rw [if_pos e, if_pos (by omega)]; exact h
theorem cmpL_zero : ∀ a b : List Nat, cmpL a b = 0 ↔ a = b
  | [], [] => by simp [cmpL]
  | [], _ :: _ => by simp [cmpL]
  | _ :: _, [] => by simp [cmpL]
  | a :: x, b :: y => by
    have ih := cmpL_zero x y
    rw [cmpL_cons]
    by_cases e : Lib.compareInt (a : Int) (b : Int) = 0
    · rw [if_neg (by omega), ih]
      have := (cmpI_zero _ _).1 e
      constructor
      · rintro rfl; congr; omega
      · intro h; exact (List.cons.inj h).2
    · rw [if_pos e]
      constructor
      · intro h; exact absurd h e
      · intro h; exact absurd ((cmpI_zero _ _).2 (by rw [(List.cons.inj h).1])) e
theorem cmpL_trans : ∀ a b c : List Nat, cmpL a b < 0 → cmpL b c < 0 → cmpL a c < 0
  | [], [], c => fun h => absurd h (by simp [cmpL])
  | [], b :: y, [] => fun _ h => absurd h (by simp [cmpL])
  | [], b :: y, c :: z => fun _ _ => by simp [cmpL]
  | a :: x, [], c => fun h => absurd h (by simp [cmpL])
  | a :: x, b :: y, [] => fun _ h => absurd h (by simp [cmpL])
  | a :: x, b :: y, c :: z => by
    have ih := cmpL_trans x y z
    have h1 := cmpI_lt (a : Int) (b : Int)
    have h2 := cmpI_lt (b : Int) (c : Int)
    have h3 := cmpI_lt (a : Int) (c : Int)
    have z1 := cmpI_zero (a : Int) (b : Int)
    have z2 := cmpI_zero (b : Int) (c : Int)
    have z3 := cmpI_zero (a : Int) (c : Int)
    rw [cmpL_cons, cmpL_cons, cmpL_cons]
    by_cases e1 : Lib.compareInt (a : Int) (b : Int) = 0
    · by_cases e2 : Lib.compareInt (b : Int) (c : Int) = 0
      · rw [if_neg (by omega), if_neg (by omega), if_neg (by omega)]; exact ih
      · rw [if_neg (by omega), if_pos e2, if_pos (by omega)]; intro _ h; omega
    · by_cases e2 : Lib.compareInt (b : Int) (c : Int) = 0
      · rw [if_pos e1, if_neg (by omega), if_pos (by omega)]; intro h _; omega
      · rw [if_pos e1, if_pos e2]
        intro g1 g2
        rw [if_pos (by omega)]
        omega
theorem cfP_neg (S : List Sg) (a b : List Nat) : cfP S a b = - cfP S b a := by
  unfold cfP
  have h1 := cmpI_neg (sA S (lst a)).arr (sA S (lst b)).arr
  have h2 := cmpI_neg (a.length : Int) (b.length : Int)
  have h3 := cmpL_neg a b
  by_cases e1 : Lib.compareInt (sA S (lst a)).arr (sA S (lst b)).arr = 0
  · by_cases e2 : Lib.compareInt (a.length : Int) (b.length : Int) = 0
    · rw [if_neg (by omega), if_neg (by omega), if_neg (by omega), if_neg (by omega)]; exact h3
    · rw [if_neg (by omega), if_pos e2, if_neg (by omega), if_pos (by omega)]; exact h2
  · rw [if_pos e1, if_pos (by omega)]; exact h1
theorem cfP_zero (S : List Sg) (a b : List Nat) : cfP S a b = 0 ↔ a = b := by
  unfold cfP
  by_cases e1 : Lib.compareInt (sA S (lst a)).arr (sA S (lst b)).arr = 0
  · by_cases e2 : Lib.compareInt (a.length : Int) (b.length : Int) = 0
    · rw [if_neg (by omega), if_neg (by omega)]; exact cmpL_zero a b
    · rw [if_neg (by omega), if_pos e2]
      exact ⟨fun h => absurd h e2, fun h => absurd ((cmpI_zero _ _).2 (by rw [h])) e2⟩
  · rw [if_pos e1]
    exact ⟨fun h => absurd h e1, fun h => absurd ((cmpI_zero _ _).2 (by rw [h])) e1⟩
theorem cfP_trans (S : List Sg) (a b c : List Nat) : cfP S a b < 0 → cfP S b c < 0 → cfP S a c < 0 := by
  unfold cfP
  have h1 := cmpI_lt (sA S (lst a)).arr (sA S (lst b)).arr
  have h2 := cmpI_lt (sA S (lst b)).arr (sA S (lst c)).arr
  have h3 := cmpI_lt (sA S (lst a)).arr (sA S (lst c)).arr
  have z1 := cmpI_zero (sA S (lst a)).arr (sA S (lst b)).arr
  have z2 := cmpI_zero (sA S (lst b)).arr (sA S (lst c)).arr
  have z3 := cmpI_zero (sA S (lst a)).arr (sA S (lst c)).arr
  have k1 := cmpI_lt (a.length : Int) (b.length : Int)
  have k2 := cmpI_lt (b.length : Int) (c.length : Int)
  have k3 := cmpI_lt (a.length : Int) (c.length : Int)
  have y1 := cmpI_zero (a.length : Int) (b.length : Int)
  have y2 := cmpI_zero (b.length : Int) (c.length : Int)
  have y3 := cmpI_zero (a.length : Int) (c.length : Int)
  have t := cmpL_trans a b c
  generalize Lib.compareInt (sA S (lst a)).arr (sA S (lst b)).arr = x1 at *
  generalize Lib.compareInt (sA S (lst b)).arr (sA S (lst c)).arr = x2 at *
  generalize Lib.compareInt (sA S (lst a)).arr (sA S (lst c)).arr = x3 at *
  generalize Lib.compareInt (a.length : Int) (b.length : Int) = v1 at *
  generalize Lib.compareInt (b.length : Int) (c.length : Int) = v2 at *
  generalize Lib.compareInt (a.length : Int) (c.length : Int) = v3 at *
  intro g1 g2
  by_cases e1 : x1 = 0
  · by_cases e2 : x2 = 0
    · rw [if_neg (by omega)] at g1 g2
      rw [if_neg (by omega)]
      by_cases d1 : v1 = 0
      · by_cases d2 : v2 = 0
        · rw [if_neg (by omega)] at g1 g2
          rw [if_neg (by omega)]
          exact t g1 g2
        · rw [if_pos (by omega)] at g2 ⊢; omega
      · rw [if_pos d1] at g1
        by_cases d2 : v2 = 0
        · rw [if_pos (by omega)]; omega
        · rw [if_pos d2] at g2; rw [if_pos (by omega)]; omega
    · rw [if_pos e2] at g2; rw [if_pos (by omega)]; omega
  · rw [if_pos e1] at g1
    by_cases e2 : x2 = 0
    · rw [if_pos (by omega)]; omega
    · rw [if_pos e2] at g2; rw [if_pos (by omega)]; omega
theorem cfP_swo (S : List Sg) {α : Type} (f : α → List Nat) : SWO (ltOf fun x y : α => cfP S (f x) (f y)) where
  irrefl x := by
    have := (cfP_zero S (f x) (f x)).2 rfl
    simp [ltOf, this]
  trans x y z h1 h2 := by
    simp only [ltOf, decide_eq_true_eq] at *
    exact cfP_trans S _ _ _ h1 h2
  ntrans x y z h1 h2 := by
    simp only [ltOf, decide_eq_false_iff_not] at *
    intro h
    have n1 := cfP_neg S (f x) (f y)
    have n2 := cfP_neg S (f y) (f z)
    have n3 := cfP_neg S (f x) (f z)
    by_cases e1 : cfP S (f x) (f y) = 0
    · rw [(cfP_zero S _ _).1 e1] at h; exact h2 h
    · by_cases e2 : cfP S (f y) (f z) = 0
      · rw [← (cfP_zero S _ _).1 e2] at h; exact h1 h
      · have := cfP_trans S (f z) (f y) (f x) (by omega) (by omega)
        have n4 := cfP_neg S (f z) (f x)
        omega

/-! ### the world behind the sort -/
theorem sortWorld_other {α : Type} [Inhabited α] (enc : α → Value) (w : World) (g off n : Nat) (d : Array α) (os : Array Obj) (k : Nat) (hk : k < w.heap.size) (hne : k ≠ g) : (sortWorld enc w g off n d os).heap[k]? = w.heap[k]? := by
  unfold sortWorld
  rw [Go.Sort.heap_grow_old _ _ (by simp [putRow, mapBlock, Sort.ahead]; omega)]
  have : g ≠ k := fun e => hne e.symm
  simp [putRow, mapBlock, Sort.ahead, Array.getElem?_modify, this]
theorem sortWorld_but {α : Type} [Inhabited α] (enc : α → Value) (w : World) (g off n : Nat) (d : Array α) (os : Array Obj) : But w (sortWorld enc w g off n d os) (fun k => k = g) :=
  ⟨rfl, rfl, rfl, by unfold sortWorld; simp [putRow, mapBlock, Sort.ahead], fun k hk hne => sortWorld_other enc w g off n d os k hk hne⟩

set_option maxRecDepth 100000 in
set_option maxHeartbeats 4000000 in
/-- nothing to sort -/
theorem sort0_any (g : Value) (w : World) : Calls Tryd.prog 18 #[.slice none 0 0, g] w fun e w' => e = .returned (.tuple #[]) ∧ w' = w := by
  have KL : Hid (∀ W, Calls Tryd.prog 38 #[.int .u64 0] W fun e w' => e = .returned (.int .i64 0) ∧ w' = W) := Lib.hid (fun W => Tryd.bits_Len 0 W (by omega) (by omega))
  have KI : Hid (∀ W, Calls Tryd.prog 56 #[.slice none 0 0, .int .i64 0, .int .i64 0, g] W fun e w' => e = .returned (.tuple #[]) ∧ w' = W) := Lib.hid (fun W => by
    go_enter Tryd.func56, Tryd.ntmps56
    go_wp2
    go_loopw [8] (fun vi wr => vi = .int .i64 1 ∧ wr = W) (fun _ _ => 0)
    case atStart => exact ⟨rfl, rfl⟩
    case round =>
      obtain ⟨rfl, rfl⟩ := hrel
      go_wp2
      refine bodyPost_end (results_none rfl _ _ _) rfl ⟨rfl, rfl⟩)
  have KP : Hid (∀ W, Calls Tryd.prog 37 #[.slice none 0 0, .int .i64 0, .int .i64 0, .int .i64 0, g] W fun e w' => e = .returned (.tuple #[]) ∧ w' = W) := Lib.hid (fun W => by
    go_enter Tryd.func37, Tryd.ntmps37
    go_wp2
    go_loopw [1, 2, 3] (fun v1 v2 v3 wr => v1 = .int .i64 0 ∧ v2 = .int .i64 0 ∧ v3 = .int .i64 0 ∧ wr = W) (fun _ _ _ _ => 0)
    case atStart => exact ⟨rfl, rfl, rfl, rfl⟩
    case round =>
      obtain ⟨rfl, rfl, rfl, rfl⟩ := hrel
      go_wp2_with (go_at_call 56; refine (KI.out _).mono ?_; rintro e w' ⟨rfl, rfl⟩)
      refine bodyPost_ret (results_none rfl _ _ _) rfl ⟨rfl, rfl⟩)
  go_enter Tryd.func18, Tryd.ntmps18
  go_wp2_with (first | (go_at_call 38; refine (KL.out _).mono ?_; rintro e w' ⟨rfl, rfl⟩) | (go_at_call 37; refine (KP.out _).mono ?_; rintro e w' ⟨rfl, rfl⟩))
  refine bodyPost_end (results_none rfl _ _ _) rfl ⟨rfl, rfl⟩

set_option maxRecDepth 100000 in
set_option maxHeartbeats 4000000 in
/-- the closure that the sort is handed -/
theorem less_any (B : Nat) (As : Option Addr) (cs : Nat) (S : List Sg) (x y : Pth) (w : World) (hB : w.cell? ⟨B, 0, none⟩ = some (.slice As S.length cs)) (hS : SgL w (.slice As S.length cs) S) (hx : PthAt w x) (hy : PthAt w y) (nx : 1 ≤ x.l.length ∧ x.l.length ≤ 1000) (ny : 1 ≤ y.l.length ∧ y.l.length ≤ 1000) (lx : lst x.l < S.length) (ly : lst y.l < S.length) (hsn : S.length ≤ 1000) :
    Calls Tryd.prog 19 #[.slice (some ⟨x.b, 0, none⟩) x.l.length x.c, .slice (some ⟨y.b, 0, none⟩) y.l.length y.c, .pointer (some ⟨B, 0, none⟩)] w fun e w' => e = .returned (.int .i64 (cfP S x.l y.l)) ∧ ∃ q os', w' = grow (w.drewN q) os' := by
  have K := Lib.hid (cmpP_any As cs S x y w hS hx hy nx ny lx ly hsn)
  generalize cfP S x.l y.l = r at *
  clear hS hx hy nx ny lx ly
  go_enter Tryd.func19, Tryd.ntmps19
  go_wp2_with (go_at_call 20; refine K.out.mono ?_; rintro e w' ⟨rfl, q, os', rfl⟩)
  go_ret
  exact ⟨rfl, q, os', rfl⟩

end Go.Proofs.YtkcdifanhdakhaaDoor.Con

/- slices.SortFunc at journeys, whatever their number. -/
namespace Go.Proofs.YtkcdifanhdakhaaDoor.Con
open Go.RowKit Go.Shelf Go.Lib Go.Sort
set_option linter.unusedSimpArgs false
set_option linter.unusedVariables false

/-- ps' are the journeys ps in order, and v holds them -/
structure SRT (S : List Sg) (w' : World) (v : Value) (ps ps' : List Pth) : Prop where
  perm : ps'.Perm ps
  ord : ps'.Pairwise fun a b => ¬ cfP S b.l a.l < 0
  row : RowL 1 encPt w' v ps'
  at' : ∀ x ∈ ps', PthAt w' x
theorem pt_ne : ptT ≠ inT := by decide
theorem row_block {α : Type} {enc : α → List Value} {e : TypeId} {sz B : Nat} {w : World} {g n cap : Nat} {l : List α} (h : ROwn e sz enc B w (.slice (some ⟨g, 0, none⟩) n cap) l) : ∃ cur, w.heap[g]? = some (.cells cur e (0, 0)) := by
  rcases h.own.2 with ⟨a, _⟩ | ⟨g', cap', cur, e1, _, hg, _⟩
  · cases a
  · cases e1; exact ⟨cur, hg⟩
theorem full_extract {α : Type} (d : Array α) (n : Nat) (h : n = d.size) : (d.extract 0 n).toList = d.toList := by subst h; simp
set_option maxHeartbeats 2000000 in
theorem sortP_any (ps : List Pth) (v : Value) (B : Nat) (As : Option Addr) (cs : Nat) (S : List Sg) (lo : Nat) (wi w : World) (hO : ROwn ptT 1 encPt lo w v ps) (hg : ∀ x ∈ ps, GvP x w)
    (hB : w.cell? ⟨B, 0, none⟩ = some (.slice As S.length cs)) (hBo : v.ownBlock ≠ some B) (hS : SgL wi (.slice As S.length cs) S) (hwi : Go.RowKit.Below wi.heap.size wi w) (hlo : wi.heap.size ≤ lo) (hsn : S.length ≤ 1000)
    (hl : ∀ x ∈ ps, (1 ≤ x.l.length ∧ x.l.length ≤ 1000) ∧ lst x.l < S.length) (hnil : ps = [] → v = .slice none 0 0) (hn : ps.length ≤ 100000) :
    Calls Tryd.prog 18 #[v, .func (.func 19) #[] #[.pointer (some ⟨B, 0, none⟩)]] w fun e w' => e = .returned (.tuple #[]) ∧ (∃ ps', SRT S w' v ps ps') ∧ But w w' (fun k => v.ownBlock = some k) := by
  by_cases he : ps = []
  · subst he
    rw [hnil rfl]
    refine (sort0_any _ w).mono ?_
    rintro e w' ⟨rfl, rfl⟩
    exact ⟨rfl, ⟨[], ⟨List.Perm.refl _, List.Pairwise.nil, ⟨none, 0, rfl, .inl rfl⟩, fun x hx => by cases hx⟩⟩, But.refl _ _⟩
  have hpos : 0 < ps.length := List.length_pos_iff.2 he
  obtain ⟨g, cap, rfl, hlog, hgw⟩ := hO.own.form (by cases ps with
    | nil => exact absurd rfl he
    | cons _ _ => simp)
  obtain ⟨cur, hcur⟩ := row_block hO
  have hgne : ∀ x ∈ ps, x.b ≠ g := by
    intro x hx e
    have h := hg x hx
    unfold GvP at h
    rw [e, hcur] at h
    have := (Obj.cells.inj (Option.some.inj h)).2.1
    exact pt_ne this
  have hBg : B ≠ g := fun e => hBo (by rw [e]; rfl)
  letI : Inhabited {x // x ∈ ps} := ⟨⟨ps.head he, List.head_mem he⟩⟩
  let enc : {x // x ∈ ps} → Value := fun x => .slice (some ⟨x.1.b, 0, none⟩) x.1.l.length x.1.c
  let d : Array {x // x ∈ ps} := ps.attach.toArray
  have hds : d.size = ps.length := by simp [d]
  have hd : ∀ j (h : j < ps.length), (d[j]!).1 = ps[j] := by
    intro j h
    rw [getElem!_pos d j (by omega)]
    simp [d]
  have hadd : ∀ j, (⟨g, 0, none⟩ : Addr).add j = ⟨g, 0 + j, none⟩ := fun j => by unfold Addr.add; split <;> simp_all
  have hH : Holds enc w g 0 d := by
    intro j hj
    rw [hds] at hj
    refine ⟨?_, frozen_of_row _ _ _ _ _ hcur⟩
    have h0 := hO.own.cells (g := g) rfl j (.slice (some ⟨ps[j].b, 0, none⟩) ps[j].l.length ps[j].c) (by
      have := cellsR_at (enc := encPt) (sz := 1) (fun _ => rfl) ps j 0 ps[j] _ (List.getElem?_eq_getElem hj) rfl
      simpa using this)
    rw [hadd] at h0
    rw [h0]
    show some _ = some (Value.slice (some ⟨(d[j]!).1.b, 0, none⟩) (d[j]!).1.l.length (d[j]!).1.c)
    rw [hd j hj]
  have hother : ∀ (m : Nat) (os : Array Obj) (dk : Array {x // x ∈ ps}) (k : Nat), k < w.heap.size → k ≠ g → (sortWorld enc w g 0 m dk os).heap[k]? = w.heap[k]? := fun m os dk k h1 h2 => sortWorld_other enc w g 0 m dk os k h1 h2
  have hgl : wi.heap.size ≤ g := Nat.le_trans hlo hlog
  have hbelow : ∀ (m : Nat) (os : Array Obj) (dk : Array {x // x ∈ ps}), Go.RowKit.Below wi.heap.size wi (sortWorld enc w g 0 m dk os) := fun m os dk => by
    have hb := sortWorld_but enc w g 0 m dk os
    refine hwi.trans (hb.below hwi.size (fun k hk e => by omega))
  have hat : ∀ (m : Nat) (os : Array Obj) (dk : Array {x // x ∈ ps}) (x : Pth), x ∈ ps → PthAt (sortWorld enc w g 0 m dk os) x := fun m os dk x hx =>
    gvP_at ((hother m os dk x.b (Array.getElem?_eq_some_iff.1 (hg x hx)).1 (hgne x hx)).trans (hg x hx))
  have hcmp : CmpLays1 Tryd.prog 19 #[.pointer (some ⟨B, 0, none⟩)] enc (fun x y => cfP S x.1.l y.1.l) g 0 d.size w := by
    intro m os dk _ x y
    have hBc : (sortWorld enc w g 0 m dk os).cell? ⟨B, 0, none⟩ = some (.slice As S.length cs) := (World.cell?_of_block (a := ⟨B, 0, none⟩) (hother m os dk B (World.block_lt_of_cell? _ _ hB) hBg)).trans hB
    exact less_any B As cs S x.1 y.1 _ hBc (hS.more (hbelow m os dk)) (hat m os dk _ x.2) (hat m os dk _ y.2) (hl _ x.2).1 (hl _ y.2).1 (hl _ x.2).2 (hl _ y.2).2 hsn
  have hK := Tryd.slices_SortFunc enc (fun _ => rfl) (fun x y => cfP S x.1.l y.1.l) (cfP_swo S (α := {x // x ∈ ps}) (fun x => x.1.l)) 19 #[.pointer (some ⟨B, 0, none⟩)] g 0 cap d w (enters_of Tryd.func19 (by kernel_rfl) rfl) hcmp hH hgw (by rw [hds]; omega)
  rw [hds] at hK
  refine hK.mono ?_
  rintro e w' ⟨rfl, d', n, os, hperm, hsort, rfl⟩
  obtain ⟨hs', _, hp⟩ := hperm
  rw [hds] at hs'
  rw [full_extract d' _ hs'.symm, full_extract d _ hds.symm] at hp
  have hdl : d.toList.map (·.1) = ps := by simp [d]
  refine ⟨rfl, ⟨d'.toList.map (·.1), ?_, ?_, ?_, ?_⟩, ?_⟩
  · have := hp.map (·.1)
    rwa [hdl] at this
  · rw [List.pairwise_map, List.pairwise_iff_getElem]
    intro i j hi hj hij
    have h := hsort i j (Nat.zero_le _) hij (by simp at hj; omega)
    rw [getElem!_pos d' j (by simpa using hj), getElem!_pos d' i (by simpa using hi)] at h
    simp only [ltOf, decide_eq_false_iff_not] at h
    simpa using h
  · have hH2 := SW.holds (enc := enc) (w0 := w) (blk := g) (off := 0) (dk := d') ⟨n, os, rfl⟩ hgw hH (by omega)
    refine ⟨_, cap, by simp [hs'], .inr ⟨g, 0, rfl, by have := (sortWorld_but enc w g 0 n d' os).size; omega, fun i x j u hi hu => ?_⟩⟩
    cases j with
    | succ j => simp [encPt] at hu
    | zero =>
      simp [encPt] at hu
      subst hu
      obtain ⟨hlt, hx⟩ := List.getElem?_eq_some_iff.1 hi
      simp only [List.length_map, Array.length_toList] at hlt
      have h := (hH2 i hlt).1
      rw [Nat.mul_one, Nat.add_zero, h]
      simp only [List.getElem_map, Array.getElem_toList] at hx
      show some (Value.slice (some ⟨(d'[i]!).1.b, 0, none⟩) (d'[i]!).1.l.length (d'[i]!).1.c) = _
      rw [getElem!_pos d' i hlt, hx]
  · intro x hx
    obtain ⟨y, _, rfl⟩ := List.mem_map.1 hx
    exact hat n os d' _ y.2
  · have hb := sortWorld_but enc w g 0 n d' os
    exact ⟨hb.os, hb.tape, hb.output, hb.size, fun k hk hn => hb.block k hk (fun e => hn (by rw [e]; rfl))⟩

end Go.Proofs.YtkcdifanhdakhaaDoor.Con

/- Walk of Paths. -/
namespace Go.Proofs.YtkcdifanhdakhaaDoor.Con
open Go.RowKit Go.Shelf
set_option linter.unusedSimpArgs false
set_option linter.unusedVariables false
attribute [local go_sem] Oper.semAt_some
attribute [local simp] wide_fn

abbrev ptsT : TypeId := 28
abbrev erT : TypeId := 29
abbrev sgsT : TypeId := 23
theorem lst1 (i : Nat) : lst [i] = i := rfl
theorem lst2 (f k : Nat) : lst [f, k] = k := rfl
theorem lst3 (f k j : Nat) : lst [f, k, j] = j := rfl
theorem pathsP_ok {l : List Cn} {S : List Sg} {fr dn : ByteArray} {most : Int} {p : List Nat} (h : p ∈ pathsP l S fr dn most) : (1 ≤ p.length ∧ p.length ≤ 3) ∧ lst p < S.length := by
  unfold pathsP at h
  rcases List.mem_append.1 h with h | h
  · obtain ⟨i, hi, rfl⟩ := List.mem_map.1 h
    exact ⟨⟨by simp, by simp⟩, (ix_lt hi).1⟩
  · by_cases h2 : most < 2
    · rw [if_pos h2] at h; cases h
    · rw [if_neg h2] at h
      rcases List.mem_append.1 h with h | h
      · obtain ⟨k, hk, h⟩ := List.mem_flatMap.1 h
        obtain ⟨f, _, rfl⟩ := List.mem_map.1 h
        exact ⟨⟨by simp, by simp⟩, (ix_lt hk).1⟩
      · by_cases h3 : most < 3
        · rw [if_pos h3] at h; cases h
        · rw [if_neg h3] at h
          obtain ⟨k, _, h⟩ := List.mem_flatMap.1 h
          obtain ⟨f, _, h⟩ := List.mem_flatMap.1 h
          obtain ⟨j, hj, rfl⟩ := List.mem_map.1 h
          exact ⟨⟨by simp, by simp⟩, (ix_lt (List.mem_filter.1 hj).1).1⟩
/-- what Paths tells -/
def PathsR (l : List Cn) (S : List Sg) (fr dn : ByteArray) (most : Int) (w' : World) (v : Value) (er : Int) : Prop :=
  if most < 1 ∨ 3 < most then v = nilS ∧ er = 2 else if 1024 < (pathsP l S fr dn most).length then v = nilS ∧ er = 4 else er = 0 ∧ ∃ ps ps', lss ps = pathsP l S fr dn most ∧ SRT S w' v ps ps'

theorem pathsM_any (a0 a1 a2 a4 a5 : Option Addr) (n0 n1 n2 n4 n5 c0 c1 c2 c4 c5 m1 m2 : Nat) (most : Int) (w : World) :
    CallsIn Fence.wide 9 Tryd.prog 17 #[.agg #[.slice a0 n0 c0, .slice a1 n1 c1, .slice a2 n2 c2, .map (some m1), .slice a4 n4 c4, .slice a5 n5 c5, .map (some m2)], .int .i64 most] w fun e w' => e = .returned (.func (.func 34) #[] #[.pointer (some ⟨w.heap.size, 0, none⟩), .pointer (some ⟨w.heap.size + 1, 0, none⟩)]) ∧
      w' = (w.alloc (.cells #[.slice a0 n0 c0, .slice a1 n1 c1, .slice a2 n2 c2, .map (some m1), .slice a4 n4 c4, .slice a5 n5 c5, .map (some m2)] srT)).alloc (.cells #[.int .i64 most] inT) := by
  refine callsIn_of_wp Tryd.func17 rfl trivial ?_ rfl
  simp only [Tryd.ntmps17, List.size_toArray, List.length_cons, List.length_nil, Nat.reduceAdd, Nat.reduceSub, Array.replicate_succ, Array.replicate_zero, List.push_toArray, List.append_toArray, List.nil_append, List.cons_append]
  gi_wp2
  go_ret
  exact ⟨rfl, rfl⟩
theorem own_gv {β : Type} (f : β → List Pth) : Own (fun (s : β) W => ∀ x ∈ f s, GvP x W) := fun s A B row hs hg hr x hx => by
  have h := hs x hx
  refine (hg.block x.b (Array.getElem?_eq_some_iff.1 h).1 (fun e => ?_)).trans h
  obtain ⟨o, ho, hc⟩ := hr x.b e.symm
  rw [show A.heap[x.b]? = _ from h] at ho
  cases ho; cases hc

theorem boxed_more {W W' : World} {B : Nat} {t : TypeId} {v : Value} (h : Boxed W B t v) (hb : Below W.heap.size W W') : Boxed W' B t v := (hb.block B h.lt).trans h
theorem own_form {W : World} {B : Nat} {e : TypeId} {sz : Nat} {v : Value} {k : Nat} {xs : List Value} (h : W.ownsRow B e sz v k xs) : ∃ A c, v = .slice A k c := by
  rcases h.2 with ⟨rfl, rfl⟩ | ⟨g, cap, cur, rfl, _⟩
  · exact ⟨_, _, rfl⟩
  · exact ⟨_, _, rfl⟩
theorem info_pt : (Tryd.prog.info? ptT).map (fun i => (i.zero, i.size, i.bytes)) = some (some (.slice none 0 0), 1, 24) := by kernel_rfl
theorem gvP_b (x : Pth) (W : World) (l : Nat) (o o' : Obj) (h : GvP x W) (hl : W.heap[l]? = some o) (hc : o.isCells = false) : GvP x (W.putObj l o') :=
  (World.putObj_heap_other (by intro e; unfold GvP at h; rw [e, hl] at h; cases h; cases hc)).trans h
/-- between two rounds: the journeys that have come lie in the row that 'found' holds -/
def PI (sz FB n1 : Nat) (w : World) (As : Option Addr) (cs : Nat) (S : List Sg) (pre : List Pth) (W : World) : Prop :=
  (∃ v, Boxed W FB ptsT v ∧ W.ownsRow n1 ptT 1 v pre.length (cellsR encPt pre) ∧ ((pre = [] → v = nilS) ∧ pre.length ≤ 1024)) ∧ (Boxed W (sz + 1) ptsT nilS ∧ Boxed W (sz + 1 + 1) erT (.int .i64 0)) ∧ Boxed W sz sgsT (.slice As S.length cs) ∧ (∀ x ∈ pre, GvP x W) ∧ Below sz w W ∧ n1 ≤ W.heap.size
def PX (sz : Nat) (w : World) (pre : List Pth) (W : World) : Prop :=
  (Boxed W (sz + 1) ptsT nilS ∧ Boxed W (sz + 1 + 1) erT (.int .i64 4)) ∧ 1024 < pre.length ∧ Below sz w W ∧ sz ≤ W.heap.size
theorem pi_own (sz FB n1 : Nat) (w : World) (As : Option Addr) (cs : Nat) (S : List Sg) {B : Nat} (h0 : sz ≤ B) (h1 : sz ≤ n1) : OwnFrom B (PI sz FB n1 w As cs S) := by
  rintro pre X Y row ⟨q1, ⟨q2, q3⟩, q4, q5, q6, q7⟩ hg hr
  have hr' : ∀ r, row = some r → ∃ o : Obj, X.heap[r]? = some o ∧ o.isCells = false := fun r e => (hr r e).2
  refine ⟨?_, ⟨?_, ?_⟩, ?_, ?_, ?_, ?_⟩
  · exact holdsRow_own n1 FB ptsT ptT 1 (fun pre : List Pth => pre.length) (fun pre => cellsR encPt pre) (fun pre v => (pre = [] → v = nilS) ∧ pre.length ≤ 1024) pre X Y row q1 hg hr'
  · exact boxed_own (β := Unit) _ _ (fun _ => nilS) () X Y row q2 hg hr'
  · exact boxed_own (β := Unit) _ _ (fun _ => .int .i64 0) () X Y row q3 hg hr'
  · exact boxed_own (β := Unit) _ _ (fun _ => .slice As S.length cs) () X Y row q4 hg hr'
  · exact own_gv (fun p : List Pth => p) pre X Y row q5 hg hr'
  · exact q6.grown hg (by omega) (fun k e => by have := (hr k e).1; omega)
  · exact Nat.le_trans q7 hg.size
theorem px_own (sz : Nat) (w : World) {B : Nat} (h0 : sz ≤ B) : OwnFrom B (PX sz w) := by
  rintro pre X Y row ⟨⟨q2, q3⟩, q4, q5, q6⟩ hg hr
  have hr' : ∀ r, row = some r → ∃ o : Obj, X.heap[r]? = some o ∧ o.isCells = false := fun r e => (hr r e).2
  refine ⟨⟨?_, ?_⟩, q4, ?_, Nat.le_trans q6 hg.size⟩
  · exact boxed_own (β := Unit) _ _ (fun _ => nilS) () X Y row q2 hg hr'
  · exact boxed_own (β := Unit) _ _ (fun _ => .int .i64 4) () X Y row q3 hg hr'
  · exact q5.grown hg q6 (fun k e => by have := (hr k e).1; omega)
theorem gv_not_own {W : World} {x : Pth} (h : GvP x W) {base k : Nat} {v : Value} {xs : List Value} (hr : W.ownsRow base ptT 1 v k xs) : v.ownBlock ≠ some x.b := by
  rcases hr.2 with ⟨rfl, _⟩ | ⟨g, cap, cur, rfl, _, hgb, _⟩
  · simp [Value.ownBlock]
  · intro e'
    obtain rfl : g = x.b := by simpa [Value.ownBlock] using e'
    have := (show W.heap[x.b]? = _ from h).symm.trans hgb
    simp at this
    exact absurd this.2 (by decide)
theorem int_not_own {W : World} {b : Nat} {cs : Array Value} (h : W.heap[b]? = some (.cells cs inT (0, 0))) {base k : Nat} {v : Value} {xs : List Value} (hr : W.ownsRow base ptT 1 v k xs) : v.ownBlock ≠ some b := by
  rcases hr.2 with ⟨rfl, _⟩ | ⟨g, cap, cur, rfl, _, hgb, _⟩
  · simp [Value.ownBlock]
  · intro e'
    obtain rfl : g = b := by simpa [Value.ownBlock] using e'
    have := h.symm.trans hgb
    simp at this
    exact absurd this.2 (by decide)
theorem pi_step {sz FB n1 : Nat} {w W w8 : World} {As : Option Addr} {cs : Nat} {S : List Sg} {pre : List Pth} {x : Pth} {v v' : Value} {tmp : Obj} (hsz : sz = w.heap.size) (hn : sz ≤ n1) (hF : FB < n1 ∧ sz < FB ∧ sz + 1 < FB ∧ sz + 1 + 1 < FB)
    (hv : Boxed W FB ptsT v) (hown : W.ownsRow n1 ptT 1 v pre.length (cellsR encPt pre)) (b1 : Boxed W (sz + 1) ptsT nilS) (b2 : Boxed W (sz + 1 + 1) erT (.int .i64 0)) (b0 : Boxed W sz sgsT (.slice As S.length cs)) (hgv : ∀ x ∈ pre, GvP x W) (hB : Below sz w W) (h7 : n1 ≤ W.heap.size)
    (hgx : GvP x W) (hlt : pre.length < 1024) (hown' : w8.ownsRow n1 ptT 1 v' (pre.length + 1) (cellsR encPt pre ++ [.slice (some ⟨x.b, 0, none⟩) x.l.length x.c])) (hgrow : (W.alloc tmp).grownBy w8 v.ownBlock) :
    Boxed w8 FB ptsT v ∧ (KeepsFrom n1 W (w8.setCell ⟨FB, 0, none⟩ v') ∧ KJ w.heap.size n1 FB W (w8.setCell ⟨FB, 0, none⟩ v') ∧ PI sz FB n1 w As cs S (pre ++ [x]) (w8.setCell ⟨FB, 0, none⟩ v')) := by
  have hnb : ∀ b, b < n1 → v.ownBlock ≠ some b := fun b hb e => by have := (hown.lt b e).1; omega
  have al : ∀ k, k < W.heap.size → (W.alloc tmp).heap[k]? = W.heap[k]? := fun k hk => Below.heap_alloc W tmp k hk
  have gr : ∀ k, k < W.heap.size → v.ownBlock ≠ some k → w8.heap[k]? = W.heap[k]? := fun k hk hne => (hgrow.block k (by rw [World.size_alloc]; omega) (fun e => hne e.symm)).trans (al k hk)
  have st : ∀ k, k ≠ FB → (w8.setCell ⟨FB, 0, none⟩ v').heap[k]? = w8.heap[k]? := fun k hk => Below.heap_setCell w8 ⟨FB, 0, none⟩ v' k hk
  have all : ∀ k, k < W.heap.size → v.ownBlock ≠ some k → k ≠ FB → (w8.setCell ⟨FB, 0, none⟩ v').heap[k]? = W.heap[k]? := fun k h1 h2 h3 => (st k h3).trans (gr k h1 h2)
  have hv1 : Boxed w8 FB ptsT v := (gr FB (by omega) (hnb FB hF.1)).trans hv
  have hs8 : W.heap.size ≤ w8.heap.size := by have := hgrow.size; rw [World.size_alloc] at this; omega
  have hs9 : W.heap.size ≤ (w8.setCell ⟨FB, 0, none⟩ v').heap.size := by have := (KeepsOthers.setCell w8 ⟨FB, 0, none⟩ v').size; omega
  have hbel : Below sz W (w8.setCell ⟨FB, 0, none⟩ v') := by
    refine (((Below.refl sz W).alloc (by omega) tmp).grown hgrow (by rw [World.size_alloc]; omega) (fun k e => ?_)).setCell (p := ⟨FB, 0, none⟩) (by simp; omega) v'
    have := (hown.lt k e).1
    omega
  have intk : ∀ (b : Nat) (cs : Array Value), W.heap[b]? = some (Obj.cells cs inT (0, 0)) → (w8.setCell ⟨FB, 0, none⟩ v').heap[b]? = some (Obj.cells cs inT (0, 0)) := fun b cs hb => by
    have hne : b ≠ FB := by
      intro e
      rw [e, show W.heap[FB]? = _ from hv] at hb
      exact absurd ((Obj.cells.inj (Option.some.inj hb)).2.1) (by decide)
    exact (all b (Array.getElem?_eq_some_iff.1 hb).1 (int_not_own hb hown) hne).trans hb
  have gvk : ∀ y, GvP y W → GvP y (w8.setCell ⟨FB, 0, none⟩ v') := fun y hy => intk _ _ hy
  refine ⟨hv1, ?_, ⟨by rw [← hsz]; exact hbel, fun k hk hne => all k (by omega) (hnb k hk) hne, intk⟩, ⟨v', hv1.set v', ?_, fun e => absurd e (by simp), by simp; omega⟩, ⟨?_, ?_⟩, ?_, ?_, hB.trans hbel, Nat.le_trans h7 hs9⟩
  · refine ⟨hs9, fun k o hk ho hc => ?_⟩
    have h1 : k < W.heap.size := (Array.getElem?_eq_some_iff.1 ho).1
    refine (all k h1 (fun e => ?_) (fun e => by omega)).trans ho
    rcases hown.2 with ⟨rfl, _⟩ | ⟨g, cap, cur, rfl, _, hgb, _⟩
    · simp [Value.ownBlock] at e
    · obtain rfl : g = k := by simpa [Value.ownBlock] using e
      rw [hgb] at ho
      cases ho; cases hc
  · have e : cellsR encPt (pre ++ [x]) = cellsR encPt pre ++ [.slice (some ⟨x.b, 0, none⟩) x.l.length x.c] := by rw [cellsR_app]; rfl
    rw [e, List.length_append]
    exact hown'.kept (grownBy_setCell' w8 FB v') (.inr (fun e => by have := (hown'.lt FB e).1; omega))
  · exact (all _ (by omega) (hnb _ (by omega)) (by omega)).trans b1
  · exact (all _ (by omega) (hnb _ (by omega)) (by omega)).trans b2
  · exact (all _ (by omega) (hnb _ (by omega)) (by omega)).trans b0
  · intro y hy
    rcases List.mem_append.1 hy with hy | hy
    · exact gvk y (hgv y hy)
    · simp at hy; subst hy; exact gvk y hgx

theorem zip_one (t : Array Value) (n : Nat) (v : Value) : Array.foldl (fun (t : Array Value) (x : Nat × Value) => t.setIfInBounds x.1 x.2) t (#[n].zip #[v]) = t.setIfInBounds n v := by simp
/-- what stands behind the sort, which has changed the row alone -/
theorem done_kept {sz FB n1 D : Nat} {W W' : World} {As : Option Addr} {cs : Nat} {S : List Sg} {ys : List Pth} {v : Value} (hb : But W W' (fun k => v.ownBlock = some k)) (hv : Boxed W FB ptsT v) (b1 : Boxed W (sz + 1) ptsT nilS) (b2 : Boxed W (sz + 1 + 1) erT (.int .i64 0)) (b0 : Boxed W sz sgsT (.slice As S.length cs)) (hgv : ∀ x ∈ ys, GvP x W)
    (hown : W.ownsRow n1 ptT 1 v ys.length (cellsR encPt ys)) (hK : W.heap[D]? = some (.deferred (some []))) (hD : n1 ≤ D) (hnD : v.ownBlock ≠ some D) (hnb : ∀ b, b < n1 → v.ownBlock ≠ some b) (hF0 : FB < n1) (hF1 : sz < FB ∧ sz + 1 < FB ∧ sz + 1 + 1 < FB) (h7 : n1 ≤ W.heap.size) :
    Boxed W' FB ptsT v ∧ Boxed W' (sz + 1) ptsT nilS ∧ Boxed W' (sz + 1 + 1) erT (.int .i64 0) ∧ W'.heap[D]? = some (.deferred (some [])) ∧ (∀ x ∈ ys, x.b < W'.heap.size ∧ x.b ≠ sz + 1 ∧ x.b ≠ sz + 1 + 1 ∧ x.b ≠ D) ∧ v.ownBlock ≠ some D := by
  refine ⟨(hb.block _ hv.lt (hnb _ hF0)).trans hv, (hb.block _ b1.lt (hnb _ (by omega))).trans b1, (hb.block _ b2.lt (hnb _ (by omega))).trans b2, (hb.block _ (Array.getElem?_eq_some_iff.1 hK).1 hnD).trans hK, fun x hx => ?_, hnD⟩
  have h := hgv x hx
  have hl := (Array.getElem?_eq_some_iff.1 h).1
  refine ⟨Nat.lt_of_lt_of_le hl hb.size, fun e => ?_, fun e => ?_, fun e => ?_⟩
  · unfold GvP at h; rw [e, show W.heap[sz + 1]? = _ from b1] at h
    exact absurd ((Obj.cells.inj (Option.some.inj h)).2.1) (by decide)
  · unfold GvP at h; rw [e, show W.heap[sz + 1 + 1]? = _ from b2] at h
    exact absurd ((Obj.cells.inj (Option.some.inj h)).2.1) (by decide)
  · unfold GvP at h; rw [e, hK] at h; cases h
theorem srt_other {S : List Sg} {W W' : World} {A : Option Addr} {n c : Nat} {ps ps' : List Pth} {a b D : Nat} (h : SRT S W (.slice A n c) ps ps') (hk : ∀ k, k < W.heap.size → (k ≠ a ∧ k ≠ b ∧ k ≠ D) → W'.heap[k]? = W.heap[k]?) (hs : W.heap.size ≤ W'.heap.size)
    (hv : ∀ k, (Value.slice A n c).ownBlock = some k → k ≠ a ∧ k ≠ b ∧ k ≠ D) (hx : ∀ x ∈ ps', x.b < W.heap.size ∧ x.b ≠ a ∧ x.b ≠ b ∧ x.b ≠ D) : SRT S W' (.slice A n c) ps ps' := by
  refine ⟨h.perm, h.ord, ?_, fun x hm => ?_⟩
  · obtain ⟨A', c', e, q⟩ := h.row
    refine ⟨A', c', e, ?_⟩
    rcases q with q | ⟨g, o, rfl, hlt, hc⟩
    · exact .inl q
    · refine .inr ⟨g, o, rfl, Nat.lt_of_lt_of_le hlt hs, fun i x j u hi hu => ?_⟩
      have hA : A = some ⟨g, o, none⟩ := (Value.slice.inj e).1
      have hne := hv g (by rw [hA]; rfl)
      exact (World.cell?_of_block (a := ⟨g, o + i * 1 + j, none⟩) (hk g hlt hne)).trans (hc i x j u hi hu)
  · obtain ⟨q1, q2⟩ := hx x hm
    have hp := h.at' x hm
    exact ⟨Nat.lt_of_lt_of_le q1 hs, fun i k hi => (World.cell?_of_block (a := ⟨x.b, i, none⟩) (hk x.b q1 q2)).trans (hp.2 i k hi)⟩

set_option maxRecDepth 100000 in
set_option maxHeartbeats 8000000 in
theorem paths_in (Al : Option Addr) (cl : Nat) (l : List Cn) (As : Option Addr) (cs : Nat) (S : List Sg) (fr dn : ByteArray) (most : Int) (w : World) (hl : CnL w (.slice Al l.length cl) l) (hv : SgL w (.slice As S.length cs) S)
    (hn : S.length ≤ 200) (hln : l.length ≤ 1000) (hz : ∀ s ∈ S, s.f.size ≤ maxLen ∧ s.t.size ≤ maxLen) (ht : ∀ s ∈ S, tmB s) (h1 : 1 ≤ most) (h3 : most ≤ 3) :
    CallsIn Fence.wide 10 Tryd.prog 7 #[.slice Al l.length cl, .slice As S.length cs, .string fr, .string dn, .int .i64 most] w fun e w' => ∃ v er, e = .returned (.tuple #[v, .int .i64 er]) ∧ PathsR l S fr dn most w' v er ∧ Below w.heap.size w w' := by
  have hb0 : Below w.heap.size w ((((w.alloc (.cells #[.slice As S.length cs] sgsT)).alloc (.cells #[.slice none 0 0] ptsT)).alloc (.cells #[.int .i64 0] erT)).alloc (.cells #[.slice none 0 0] ptsT)) := ((((Below.refl _ w).alloc (Nat.le_refl _) _).alloc (by simp) _).alloc (by simp; omega) _).alloc (by simp; omega) _
  have b0 := Boxed.new w sgsT (.slice As S.length cs)
  have b1 := Boxed.new (w.alloc (.cells #[.slice As S.length cs] sgsT)) ptsT (.slice none 0 0)
  have b2 := Boxed.new ((w.alloc (.cells #[.slice As S.length cs] sgsT)).alloc (.cells #[.slice none 0 0] ptsT)) erT (.int .i64 0)
  have b3 := Boxed.new (((w.alloc (.cells #[.slice As S.length cs] sgsT)).alloc (.cells #[.slice none 0 0] ptsT)).alloc (.cells #[.int .i64 0] erT)) ptsT (.slice none 0 0)
  simp only [World.size_alloc] at b1 b2 b3
  have b0 := ((b0.alloc (.cells #[.slice none 0 0] ptsT)).alloc (.cells #[.int .i64 0] erT)).alloc (.cells #[.slice none 0 0] ptsT)
  have b1 := (b1.alloc (.cells #[.int .i64 0] erT)).alloc (.cells #[.slice none 0 0] ptsT)
  have b2 := b2.alloc (.cells #[.slice none 0 0] ptsT)
  have c0 := b0.cell
  have hsz4 : ((((w.alloc (.cells #[.slice As S.length cs] sgsT)).alloc (.cells #[.slice none 0 0] ptsT)).alloc (.cells #[.int .i64 0] erT)).alloc (.cells #[.slice none 0 0] ptsT)).heap.size = w.heap.size + 4 := by simp
  have KN := Lib.hid (newSearch_any Al l.length cl As cs S fr dn _ (hv.more hb0) hn hz)
  have HL := Lib.hid hl
  have HV := Lib.hid hv
  have HZ := Lib.hid hz
  have HT := Lib.hid ht
  have HB0 := Lib.hid hb0
  have g1 : ¬ most < 1 := by omega
  have g2 : ¬ 3 < most := by omega
  clear hl hv hz ht hb0
  refine callsIn_of_wp_marks Tryd.func7 rfl trivial ?_ rfl
  simp only [Tryd.ntmps7, List.size_toArray, List.length_cons, List.length_nil, Nat.reduceAdd, Nat.reduceSub, Array.replicate_succ, Array.replicate_zero, List.push_toArray, List.append_toArray, List.nil_append, List.cons_append]
  gi_wp2_with (first
    | (gi_at_call 16; refine (callsIn_wide.2 KN.out).mono ?_; rintro e w1 ⟨m1, m2, V, rfl, hsq, hnsp, hb1⟩; obtain ⟨ao, co, eo, _⟩ := hsq.rows .o; obtain ⟨am, cm, em, _⟩ := hsq.rows .m; obtain ⟨al, cl', el, _⟩ := hsq.rows .l; rw [eo, em, el])
    | (gi_at_call 17; refine (pathsM_any _ _ _ _ _ _ _ _ _ _ _ _ _ _ _ _ _ _ _).mono ?_; rintro e w2 ⟨rfl, hw2⟩))
  obtain ⟨X, hX⟩ : ∃ X, X = ((((w.alloc (.cells #[.slice As S.length cs] sgsT)).alloc (.cells #[.slice none 0 0] ptsT)).alloc (.cells #[.int .i64 0] erT)).alloc (.cells #[.slice none 0 0] ptsT)) := ⟨_, rfl⟩
  have hbx := HB0.out
  rw [← hX] at b0 b1 b2 b3 hb1 hnsp hsz4 hbx
  clear hX KN HB0 c0
  obtain ⟨sz, hsz⟩ : ∃ sz, sz = w.heap.size := ⟨_, rfl⟩
  obtain ⟨FB, hFB⟩ : ∃ FB, FB = sz + 1 + 1 + 1 := ⟨_, rfl⟩
  rw [← hsz] at b0 b1 b2 b3 hsz4
  rw [← hFB] at b3
  simp only [← hsz]
  rw [← hFB]
  obtain ⟨Bs, hBs⟩ : ∃ Bs, Bs = w1.heap.size := ⟨_, rfl⟩
  simp only [← hBs]
  have hA := bel_alloc w1 (.cells #[.slice Al l.length cl, .slice As S.length cs, .slice ao (kyL S fr dn S.length .o).length co, .map (some m1), .slice am (kyL S fr dn S.length .m).length cm, .slice al (kyL S fr dn S.length .l).length cl', .map (some m2)] srT)
  have hA2 := bel_alloc (w1.alloc (.cells #[.slice Al l.length cl, .slice As S.length cs, .slice ao (kyL S fr dn S.length .o).length co, .map (some m1), .slice am (kyL S fr dn S.length .m).length cm, .slice al (kyL S fr dn S.length .l).length cl', .map (some m2)] srT)) (.cells #[.int .i64 most] inT)
  have hN1 := heap_alloc_new w1 (.cells #[.slice Al l.length cl, .slice As S.length cs, .slice ao (kyL S fr dn S.length .o).length co, .map (some m1), .slice am (kyL S fr dn S.length .m).length cm, .slice al (kyL S fr dn S.length .l).length cl', .map (some m2)] srT)
  have hN2 := heap_alloc_new (w1.alloc (.cells #[.slice Al l.length cl, .slice As S.length cs, .slice ao (kyL S fr dn S.length .o).length co, .map (some m1), .slice am (kyL S fr dn S.length .m).length cm, .slice al (kyL S fr dn S.length .l).length cl', .map (some m2)] srT)) (.cells #[.int .i64 most] inT)
  have hN1 := (hA2.block w1.heap.size (by simp)).trans hN1
  obtain ⟨W0, hW0⟩ : ∃ W0, W0 = ((w1.alloc (.cells #[.slice Al l.length cl, .slice As S.length cs, .slice ao (kyL S fr dn S.length .o).length co, .map (some m1), .slice am (kyL S fr dn S.length .m).length cm, .slice al (kyL S fr dn S.length .l).length cl', .map (some m2)] srT)).alloc (.cells #[.int .i64 most] inT)) := ⟨_, rfl⟩
  have hs0 : W0.heap.size = Bs + 2 := by rw [hW0]; simp only [World.size_alloc, ← hBs]
  have h01 : Below w1.heap.size w1 W0 := by rw [hW0]; exact hA.trans (hA2.mono hA.size)
  rw [World.size_alloc] at hN2
  rw [← hW0, ← hBs] at hN1 hN2
  rw [← eo, ← em, ← el] at hN1
  rw [← hW0]
  clear hA hA2 hW0
  have hx1 : X.heap.size ≤ w1.heap.size := hb1.size
  have hXW : Below X.heap.size X W0 := hb1.trans (h01.mono hx1)
  have hbw : Below w.heap.size w W0 := hbx.trans (hXW.mono hbx.size)
  obtain ⟨lo, hown, hlo1, hlo2, hlo3, hlo4, hlo5⟩ := hnsp
  have hsd : SD w W0.heap.size FB lo Bs (Bs + 1) m1 m2 (.slice Al l.length cl) (.slice As S.length cs) V (kyL S fr dn S.length) most W0 := by
    obtain ⟨a1, ga, p1, e1⟩ := hsq.map1
    obtain ⟨a2, gb, p2, e2⟩ := hsq.map2
    exact ⟨hbw, Nat.le_refl _, hN1, hN2, fun k => own_more (hown k) h01, ⟨a1, ga, p1.more h01, e1⟩, ⟨a2, gb, p2.more h01, e2⟩, by omega, by omega, by omega, by omega, by omega, by omega, by omega⟩
  have b0 := boxed_more b0 hXW
  have b1 := boxed_more b1 hXW
  have b2 := boxed_more b2 hXW
  have b3 := boxed_more b3 hXW
  have hszW : sz + 4 ≤ W0.heap.size := by omega
  have hbsz : Below sz w W0 := by rw [hsz]; exact hbw
  have HBS := Lib.hid hBs
  have HSZ := Lib.hid hsz
  have HFB := Lib.hid hFB
  have hF0 : FB < W0.heap.size := by omega
  have hF1 : sz < FB ∧ sz + 1 < FB ∧ sz + 1 + 1 < FB := by omega
  have hWn : w.heap.size ≤ W0.heap.size := by omega
  clear hsq hown hN1 hN2 h01 hb1 hbx hXW hbw hx1 hlo1 hlo2 hlo3 hlo4 hlo5 hs0 hsz4 eo em el hsz hFB hBs
  obtain ⟨i0, hi, hz0, hz1, hz2⟩ := info_parts info_pt
  obtain ⟨vq, hvq⟩ : ∃ vq, vq = (Value.agg #[.slice Al l.length cl, .slice As S.length cs, .slice ao (kyL S fr dn S.length .o).length co, .map (some m1), .slice am (kyL S fr dn S.length .m).length cm, .slice al (kyL S fr dn S.length .l).length cl', .map (some m2)]) := ⟨_, rfl⟩
  rw [← hvq]
  clear hvq
  refine range_given rfl (by omega) (gf := 34) (lb := #[.pointer (some ⟨Bs, 0, none⟩), .pointer (some ⟨Bs + 1, 0, none⟩)]) rfl trivial (enters_of Tryd.func34 (by kernel_rfl) rfl)
    (paths_stops w W0.heap.size FB lo Bs (Bs + 1) m1 m2 Al cl l As cs S fr dn V most HL.out HV.out hn hln HZ.out HT.out W0 hsd) kj_t (kj_b hWn (Nat.le_refl _)) gvP_b (Below.refl _ _) (fun _ => rfl)
    (PI sz FB W0.heap.size w As cs S) (PX sz w) (pi_own sz FB W0.heap.size w As cs S (by omega) (by omega)) (px_own sz w (by omega))
    ⟨⟨nilS, b3, World.ownsRow_nil _ _ _ _, fun _ => rfl, by simp⟩, ⟨b1, b2⟩, b0, fun x hx => (by cases hx), hbsz, Nat.le_refl _⟩
    (fun x => { tmps := #[.slice Al l.length cl, .slice As S.length cs, .string fr, .string dn, .int .i64 most, undef, .pointer (some ⟨sz, 0, none⟩), undef, undef, undef, .pointer (some ⟨sz + 1, 0, none⟩), .pointer (some ⟨sz + 1 + 1, 0, none⟩), .pointer (some ⟨FB, 0, none⟩), .slice (some ⟨x.b, 0, none⟩) x.l.length x.c, .int .i64 most, .bool false, .bool false, .int .i64 most, .bool false, .bool false, .slice Al l.length cl, .slice As S.length cs, .string fr, .string dn, vq, .int .i64 most, .func (.func 34) #[] #[.pointer (some ⟨Bs, 0, none⟩), .pointer (some ⟨Bs + 1, 0, none⟩)], .slice (some ⟨x.b, 0, none⟩) x.l.length x.c, undef, undef, undef, undef, undef, undef, undef, undef, undef, undef, undef], defers := [] }) ?assign ?body ?done ?stop
  case assign =>
    intro lp x W K hK
    dsimp only [encY]
    rw [zip_one]
    gi_wp2
    have hbs := HBS.out
    subst hbs
    exact hK
  case body =>
    rintro lp pre x W ⟨⟨v, hv, hown, hnil, hlen⟩, ⟨b1', b2'⟩, b0', hgv, hB, h7⟩ hgx
    have hszW' : sz ≤ W.heap.size := by omega
    obtain ⟨A1, c1, rfl⟩ := own_form hown
    have HST := Lib.hid (fun (hlt : pre.length < 1024) (v' : Value) (w8 : World) (tmp : Obj) h1 h2 => pi_step (x := x) (v' := v') (w8 := w8) (tmp := tmp) HSZ.out (show sz ≤ W0.heap.size by omega) ⟨hF0, hF1⟩ hv hown b1' b2' b0' hgv hB h7 hgx hlt h1 h2)
    have hc := hv.cell
    have hfz := hv.frozen
    cases hq : ((pre.length : Int) == 1024) with
    | true =>
      have x1 := b1'.cell
      have x2 := b2'.cell
      have z1 := b1'.frozen
      have z2 := b2'.frozen
      have hfin : KeepsFrom W0.heap.size W ((W.setCell ⟨sz + 1, 0, none⟩ (.slice none 0 0)).setCell ⟨sz + 1 + 1, 0, none⟩ (.int .i64 4)) ∧ PX sz w (pre ++ [x]) ((W.setCell ⟨sz + 1, 0, none⟩ (.slice none 0 0)).setCell ⟨sz + 1 + 1, 0, none⟩ (.int .i64 4)) := by
        refine ⟨((KeepsOthers.setCell _ _ _).trans (KeepsOthers.setCell _ _ _)).from _, ⟨(b1'.set _).other (by omega) _, (b2'.other (by omega) _).set _⟩, ?_, (hB.setCell (p := ⟨sz + 1, 0, none⟩) (by simp) _).setCell (p := ⟨sz + 1 + 1, 0, none⟩) (by simp; omega) _, Nat.le_trans hszW' ((KeepsOthers.setCell W ⟨sz + 1, 0, none⟩ _).trans (KeepsOthers.setCell _ ⟨sz + 1 + 1, 0, none⟩ _)).size⟩
        have := eq_of_beq hq
        simp
        omega
      have HFIN := Lib.hid hfin
      clear hfin hown hgv hgx hB b1' b2' b0' hv HST
      gi_wp2
      exact HFIN.out
    | false =>
      have hlt : pre.length < 1024 := by
        have : ¬ (pre.length : Int) = 1024 := by simpa using hq
        omega
      have hrow := hown
      clear hgv hgx b1' b2' b0' hB
      gi_wp2_with (gi_at_builtin; refine wpListIn_append_own _ rfl _ _ 28 rfl W0.heap.size ptT i0 (.slice none 0 0) 1 24 Tryd.underlying28 hi hz0 hz1 hz2 rfl (by decide) _ _ _ rfl (hrow.alloc _) ⟨W.heap.size, 0, none⟩ 1 1 [.slice (some ⟨x.b, 0, none⟩) x.l.length x.c] rfl rfl (cell_one_new _ _ _) (by simp [Value.oneCell']) (by unfold maxLen; omega) (by omega) (by simp; omega) ?_; intro v' w8 hown' hgrow _; obtain ⟨g8, c8, rfl⟩ := ownsRow_succ hown'; have hA8 := Lib.hid (HST.out hlt _ _ _ hown' hgrow); have hc8 := hA8.out.1.cell; have hf8 := hA8.out.1.frozen)
      exact hA8.out.2
  case done =>
    rintro D ys W hD hys ⟨⟨v, hv, hown, hnil, hlen⟩, ⟨b1', b2'⟩, b0', hgv, hB, h7⟩ hK
    have hok : ∀ x ∈ ys, (1 ≤ x.l.length ∧ x.l.length ≤ 1000) ∧ lst x.l < S.length := by
      intro x hx
      have h : x.l ∈ pathsP l S fr dn most := by rw [← hys]; exact List.mem_map.2 ⟨x, hx, rfl⟩
      have := pathsP_ok h
      exact ⟨⟨this.1.1, by omega⟩, this.2⟩
    have hwB : Below w.heap.size w W := by rw [← HSZ.out]; exact hB
    have KS := Lib.hid (sortP_any ys v sz As cs S W0.heap.size w W ⟨hown, h7⟩ hgv b0'.cell (fun e => by have := (hown.lt sz e).1; omega) HV.out hwB hWn (by omega) hok hnil (by omega))
    have hnb : ∀ b, b < W0.heap.size → v.ownBlock ≠ some b := fun b hb e => by have := (hown.lt b e).1; omega
    have hnD : v.ownBlock ≠ some D := by
      rcases hown.2 with ⟨rfl, _⟩ | ⟨g, cap, cur, rfl, _, hgb, _⟩
      · simp [Value.ownBlock]
      · intro e
        obtain rfl : g = D := by simpa [Value.ownBlock] using e
        rw [hgb] at hK; cases hK
    have HOB := Lib.hid (fun b => (hown.lt b))
    have HLS : Hid (ys.length ≤ 1024 ∧ lss ys = pathsP l S fr dn most) := Lib.hid ⟨hlen, hys⟩
    obtain ⟨A1, c1, rfl⟩ := own_form hown
    have HST := Lib.hid (fun W' (hb : But W W' (fun k => (Value.slice A1 ys.length c1).ownBlock = some k)) => done_kept hb hv b1' b2' b0' hgv hown hK hD hnD hnb (show FB < W0.heap.size from hF0) hF1 h7)
    have hc := hv.cell
    clear hok hv b1' b2' b0' hgv hown hnil hys hnD hnb
    gi_wp2_with (gi_at_call 18; refine (callsIn_wide.2 KS.out).mono ?_; rintro e w3 ⟨rfl, ⟨ps', hsrt⟩, hbut⟩; have hst := HST.out _ hbut; have hc3 := hst.1.cell; have hf3 := hst.1.frozen; have x1 := hst.2.1.cell; have x2 := hst.2.2.1.cell; have z1 := hst.2.1.frozen; have z2 := hst.2.2.1.frozen)
    obtain ⟨s1, s2, s3, s4, s5, s6⟩ := hst
    have bA := (s2.set (.slice A1 ys.length c1)).other (show sz + 1 ≠ sz + 1 + 1 by omega) (.int .i64 0)
    have bB := (s3.other (show sz + 1 + 1 ≠ sz + 1 by omega) (.slice A1 ys.length c1)).set (.int .i64 0)
    have hK' := ((KeepsOthers.setCell w3 ⟨sz + 1, 0, none⟩ (.slice A1 ys.length c1)).trans (KeepsOthers.setCell _ ⟨sz + 1 + 1, 0, none⟩ (.int .i64 0))).same D _ s4 rfl
    refine ⟨by simp, .inl ⟨_, _, rfl, run_takeDeferred hK', ?_⟩⟩
    have hcA := cell_kept bA.cell (grownBy_putObj' _ D (.deferred none)) (fun r e => by cases e; exact ⟨_, hK', rfl⟩)
    have hcB := cell_kept bB.cell (grownBy_putObj' _ D (.deferred none)) (fun r e => by cases e; exact ⟨_, hK', rfl⟩)
    refine ⟨.tuple #[.slice A1 ys.length c1, .int .i64 0], ?_, .slice A1 ys.length c1, 0, rfl, ?_, ?_⟩
    · simp [results, Tryd.f7, go_sem, hcA, hcB]
    · unfold PathsR
      have hl2 := HLS.out.1
      have hl3 := HLS.out.2
      have hl4 : (pathsP l S fr dn most).length = ys.length := by rw [← hl3]; simp [lss]
      rw [if_neg (by omega), if_neg (by omega)]
      refine ⟨rfl, ys, ps', hl3, srt_other (a := sz + 1) (b := sz + 1 + 1) (D := D) hsrt (fun k hk hne => ?_) ?_ (fun b hb => ?_) (fun x hx => ?_)⟩
      · exact ((World.putObj_heap_other hne.2.2).trans ((Below.heap_setCell _ ⟨sz + 1 + 1, 0, none⟩ _ k hne.2.1).trans (Below.heap_setCell _ ⟨sz + 1, 0, none⟩ _ k hne.1)) : _)
      · rw [World.putObj_size]; exact ((KeepsOthers.setCell w3 ⟨sz + 1, 0, none⟩ (.slice A1 ys.length c1)).trans (KeepsOthers.setCell _ ⟨sz + 1 + 1, 0, none⟩ (.int .i64 0))).size
      · have := HOB.out b hb
        refine ⟨by omega, by omega, fun e => ?_⟩
        subst e
        exact s6 hb
      · exact s5 x ((hsrt.perm.mem_iff).1 hx)
    · have h1 := HSZ.out
      have hB' : Below sz w w3 := hB.trans (hbut.below (by omega) (fun k hk e => by have := (HOB.out k e).1; omega))
      have hB2 := (hB'.setCell (p := ⟨sz + 1, 0, none⟩) (by simp) (.slice A1 ys.length c1)).setCell (p := ⟨sz + 1 + 1, 0, none⟩) (by simp; omega) (.int .i64 0)
      exact (hB2.mono (show w.heap.size ≤ sz by omega)).trans (belowK_b (w := w) (Nat.le_refl _) _ D _ (.deferred none) (by omega) hK' rfl rfl)
  case stop =>
    rintro D pre W hD hsp ⟨⟨b1', b2'⟩, hlen, hB, h7⟩ hK
    have c0 := b1'.cell
    have c1 := b2'.cell
    gi_wp2
    refine ⟨by simp, .inl ⟨_, _, rfl, run_takeDeferred hK, ?_⟩⟩
    have hcA := cell_kept c0 (grownBy_putObj' _ D (.deferred none)) (fun r e => by cases e; exact ⟨_, hK, rfl⟩)
    have hcB := cell_kept c1 (grownBy_putObj' _ D (.deferred none)) (fun r e => by cases e; exact ⟨_, hK, rfl⟩)
    refine ⟨.tuple #[.slice none 0 0, .int .i64 4], ?_, .slice none 0 0, 4, rfl, ?_, ?_⟩
    · simp [results, Tryd.f7, go_sem, hcA, hcB]
    · unfold PathsR
      rw [if_neg (by omega), if_pos (by have := hsp.length_le; simp [lss] at this; omega)]
      exact ⟨rfl, rfl⟩
    · have h1 := HSZ.out
      have hB' : Below w.heap.size w W := by rw [← h1]; exact hB
      exact hB'.trans (belowK_b (w := w) (Nat.le_refl _) W D _ _ (by omega) hK rfl rfl)

set_option maxRecDepth 100000 in
set_option maxHeartbeats 8000000 in
theorem paths_any (Al : Option Addr) (cl : Nat) (l : List Cn) (As : Option Addr) (cs : Nat) (S : List Sg) (fr dn : ByteArray) (most : Int) (w : World) (hl : CnL w (.slice Al l.length cl) l) (hv : SgL w (.slice As S.length cs) S)
    (hn : S.length ≤ 200) (hln : l.length ≤ 1000) (hz : ∀ s ∈ S, s.f.size ≤ maxLen ∧ s.t.size ≤ maxLen) (ht : ∀ s ∈ S, tmB s) :
    Calls Tryd.prog 7 #[.slice Al l.length cl, .slice As S.length cs, .string fr, .string dn, .int .i64 most] w fun e w' => ∃ v er, e = .returned (.tuple #[v, .int .i64 er]) ∧ PathsR l S fr dn most w' v er ∧ Below w.heap.size w w' := by
  by_cases h1 : most < 1
  · have HR : Hid (∀ W, PathsR l S fr dn most W nilS 2) := Lib.hid (fun W => by unfold PathsR; rw [if_pos (.inl h1)]; exact ⟨rfl, rfl⟩)
    clear hl hv hz ht
    have HE : Hid (∀ U, U = ((w.alloc (.cells #[.slice As S.length cs] sgsT)).alloc (.cells #[.slice none 0 0] ptsT)).alloc (.cells #[.int .i64 2] erT) → U.cell? ⟨w.heap.size + 1, 0, none⟩ = some (.slice none 0 0) ∧ U.cell? ⟨w.heap.size + 1 + 1, 0, none⟩ = some (.int .i64 2) ∧ Below w.heap.size w U) := Lib.hid (fun U hU => by
      have b1 := Boxed.new (w.alloc (.cells #[.slice As S.length cs] sgsT)) ptsT (.slice none 0 0)
      have b2 := Boxed.new ((w.alloc (.cells #[.slice As S.length cs] sgsT)).alloc (.cells #[.slice none 0 0] ptsT)) erT (.int .i64 2)
      simp only [World.size_alloc] at b1 b2
      rw [hU]
      exact ⟨(b1.alloc _).cell, b2.cell, (((Below.refl _ w).alloc (Nat.le_refl _) _).alloc (by simp) _).alloc (by simp; omega) _⟩)
    go_enter Tryd.func7, Tryd.ntmps7
    go_wp2
    obtain ⟨hA, hB2, hbb⟩ := HE.out _ rfl
    generalize hWW : ((w.alloc (.cells #[.slice As S.length cs] sgsT)).alloc (.cells #[.slice none 0 0] ptsT)).alloc (.cells #[.int .i64 2] erT) = WW at *
    clear hWW HE
    refine bodyPost_ret (v := .tuple #[.slice none 0 0, .int .i64 2]) ?_ rfl ⟨.slice none 0 0, 2, rfl, HR.out _, hbb⟩
    simp [results, Tryd.results7, go_sem, hA, hB2]
  · by_cases h3 : 3 < most
    · have HR : Hid (∀ W, PathsR l S fr dn most W nilS 2) := Lib.hid (fun W => by unfold PathsR; rw [if_pos (.inr h3)]; exact ⟨rfl, rfl⟩)
      clear hl hv hz ht
      have HE : Hid (∀ U, U = ((w.alloc (.cells #[.slice As S.length cs] sgsT)).alloc (.cells #[.slice none 0 0] ptsT)).alloc (.cells #[.int .i64 2] erT) → U.cell? ⟨w.heap.size + 1, 0, none⟩ = some (.slice none 0 0) ∧ U.cell? ⟨w.heap.size + 1 + 1, 0, none⟩ = some (.int .i64 2) ∧ Below w.heap.size w U) := Lib.hid (fun U hU => by
        have b1 := Boxed.new (w.alloc (.cells #[.slice As S.length cs] sgsT)) ptsT (.slice none 0 0)
        have b2 := Boxed.new ((w.alloc (.cells #[.slice As S.length cs] sgsT)).alloc (.cells #[.slice none 0 0] ptsT)) erT (.int .i64 2)
        simp only [World.size_alloc] at b1 b2
        rw [hU]
        exact ⟨(b1.alloc _).cell, b2.cell, (((Below.refl _ w).alloc (Nat.le_refl _) _).alloc (by simp) _).alloc (by simp; omega) _⟩)
      go_enter Tryd.func7, Tryd.ntmps7
      go_wp2
      obtain ⟨hA, hB2, hbb⟩ := HE.out _ rfl
      generalize hWW : ((w.alloc (.cells #[.slice As S.length cs] sgsT)).alloc (.cells #[.slice none 0 0] ptsT)).alloc (.cells #[.int .i64 2] erT) = WW at *
      clear hWW HE
      refine bodyPost_ret (v := .tuple #[.slice none 0 0, .int .i64 2]) ?_ rfl ⟨.slice none 0 0, 2, rfl, HR.out _, hbb⟩
      simp [results, Tryd.results7, go_sem, hA, hB2]
    · exact callsIn_wide.1 (paths_in Al cl l As cs S fr dn most w hl hv hn hln hz ht (by omega) (by omega))

end Go.Proofs.YtkcdifanhdakhaaDoor.Con
