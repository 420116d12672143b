/- The specification's Groups. -/
import Derived.Test.YtggbflogndpnoaaMarU
namespace Go.Proofs.Ytggbflogndpnoaa
open Go.RowKit Go.Shelf Go.Maps
set_option linter.unusedSimpArgs false
set_option linter.unusedVariables false

theorem gP_new {l : List Int} {i : Nat} (h : staB l i = true) : gP l (i + 1) = gP l i ++ [[(i : Int)]] := by
  show (if staB l i = true then _ else _) = _
  rw [if_pos h]
theorem gP_join {l : List Int} {i : Nat} (h : staB l i = false) {r : List (List Int)} {x : List Int} (hg : gP l i = r ++ [x]) : gP l (i + 1) = r ++ [x ++ [(i : Int)]] := by
  show (if staB l i = true then _ else _) = _
  rw [if_neg (by rw [h]; exact Bool.false_ne_true), hg, List.dropLast_concat, List.getLast?_concat, Option.getD_some]
theorem gP_pos {l : List Int} : ∀ i : Nat, 0 < i → gP l i ≠ []
  | 0, h => by omega
  | i + 1, _ => by
    show (if staB l i = true then _ else _) ≠ _
    split <;> simp
theorem gP_len (l : List Int) : ∀ i : Nat, (gP l i).length ≤ i
  | 0 => Nat.le_refl _
  | i + 1 => by
    have := gP_len l i
    show (if staB l i = true then _ else _ : List (List Int)).length ≤ _
    split
    · simp; omega
    · simp; omega
theorem gP_each (l : List Int) : ∀ (i : Nat) (x : List Int), x ∈ gP l i → x.length ≤ i
  | 0, x, h => by cases h
  | i + 1, x, h => by
    have ih := gP_each l i
    have h : x ∈ (if staB l i = true then gP l i ++ [[(i : Int)]] else (gP l i).dropLast ++ [((gP l i).getLast?).getD [] ++ [(i : Int)]]) := h
    split at h
    · rw [List.mem_append, List.mem_singleton] at h
      rcases h with h | rfl
      · have := ih x h; omega
      · simp
    · rw [List.mem_append, List.mem_singleton] at h
      rcases h with h | rfl
      · have := ih x (List.dropLast_subset _ h); omega
      · cases hq : (gP l i).getLast? with
        | none => simp
        | some y =>
          have := ih y (List.mem_of_getLast? hq)
          simp; omega
theorem frozen_but {w w' : World} {X : Nat → Prop} (hb : But w w' X) {g j : Nat} {cur : Array Value} {t : TypeId} (h : w.heap[g]? = some (.cells cur t (0, 0))) (hn : ¬ X g) : w'.frozen? ⟨g, j, none⟩ = false := by
  have e := (hb.block g (Array.getElem?_eq_some_iff.1 h).1 hn).trans h
  unfold World.frozen?
  simp only [e]
  simp
theorem rown_form {α : Type} {e : TypeId} {sz B : Nat} {enc : α → List Value} {w : World} {v : Value} {l : List α} (h : ROwn e sz enc B w v l) (hne : l ≠ []) : ∃ g cap n, v = .slice (some ⟨g, 0, none⟩) n cap ∧ n = l.length := by
  rcases h.own.2 with ⟨_, h0⟩ | ⟨g, cap, cur, rfl, _⟩
  · exact absurd (List.eq_nil_of_length_eq_zero h0) hne
  · exact ⟨g, cap, _, rfl, rfl⟩
/-- the state of the specification's loop -/
structure RG (l : List Int) (w : World) (i : Nat) (v : Value) (gs : List Gp) (W : World) : Prop where
  o : GpO w.heap.size W v gs
  eq : gs.map Gp.l = gP l i
  bel : Below w.heap.size w W
theorem RG.more {l : List Int} {w : World} {i : Nat} {v : Value} {gs : List Gp} {W W' : World} (h : RG l w i v gs W) (hb : Below W.heap.size W W') : RG l w i v gs W' := ⟨h.o.more hb, h.eq, h.bel.trans (hb.mono h.bel.size)⟩
theorem GpO.gpV {B : Nat} {W : World} {v : Value} {gs : List Gp} (h : GpO B W v gs) : RowL 1 encGp W v gs ∧ ∀ x ∈ gs, IntR W (slG x) x.l := ⟨h.own.rowL rowGp.len, fun x hx => (h.row x hx).1.rowL rowI.len⟩
theorem GpL.gpV {B : Nat} {W : World} {v : Value} {gs : List Gp} (h : GpL B W v gs) : RowL 1 encGp W v gs ∧ ∀ x ∈ gs, IntR W (slG x) x.l := ⟨h.own.rowL rowGp.len, fun x hx => (h.row x hx).1.intR⟩
/-- what the specification's Groups tells -/
def RGrpR (gs : List (List Int)) (er : Int) (w : World) (e : Ending) (w' : World) : Prop :=
  ∃ (v : Value) (xs : List Gp), e = .returned (.tuple #[v, .int .i64 er]) ∧ xs.map Gp.l = gs ∧ GpO w.heap.size w' v xs ∧ Below w.heap.size w w'

set_option maxRecDepth 100000 in
set_option maxHeartbeats 8000000 in
theorem rgroups_any (A : Option Addr) (c : Nat) (l : List Int) (w : World) (hl : l.length ≤ 1000) (hL : IntR w (.slice A l.length c) l) :
    Calls Try.prog 9 #[.slice A l.length c] w (RGrpR (grpP l) (chkP l) w) := by
  have HC : Hid (∀ k, k < l.length → ∃ b o, A = some ⟨b, o, none⟩ ∧ w.cell? ⟨b, o + k, none⟩ = some (.int .i64 (atP l k))) := Lib.hid (fun k hk => int_at hL (atP_get hk))
  have KC := Lib.hid (rcheck_any A c l w hl hL)
  obtain ⟨n, hn⟩ : ∃ n, n = l.length := ⟨_, rfl⟩
  have HN := Lib.hid hn
  rw [← hn] at hl KC HC
  rw [← hn]
  obtain ⟨ce, hce⟩ : ∃ ce, ce = chkP l := ⟨_, rfl⟩
  rw [← hce] at KC ⊢
  clear hL hn
  by_cases h0 : ce = 0
  rotate_left
  · have HF : Hid (∀ W, Below w.heap.size w W → RGrpR (grpP l) ce w (.returned (.tuple #[.slice none 0 0, .int .i64 ce])) W) := Lib.hid (fun W h => ⟨_, [], rfl, by unfold grpP; rw [if_neg (by rw [← hce]; exact h0)]; rfl, gpO_nil h.size, h⟩)
    have g0 : (ce != 0) = true := by simpa using h0
    clear hce h0
    go_enter Try.func9, Try.ntmps9
    go_wp2_with (go_at_call 11; refine KC.out.mono ?_; rintro e w2 ⟨rfl, hb2⟩)
    refine bodyPost_ret (results_tmp2 rfl _ _ _) rfl ?_
    exact HF.out _ hb2
  · have HE := Lib.hid (hce.symm.trans h0)
    clear hce
    subst h0
    go_enter Try.func9, Try.ntmps9
    go_wp2_with (go_at_call 11; refine KC.out.mono ?_; rintro e w2 ⟨rfl, hb2⟩)
    have HS0 : Hid (∃ gs, RG l w 0 (.slice none 0 0) gs w2) := Lib.hid ⟨[], gpO_nil hb2.size, rfl, hb2⟩
    clear hb2
    go_loopw [6, 5] (fun vi v wr => ∃ (i : Nat) (u : Value), i ≤ n ∧ vi = .int .i64 (i : Int) ∧ u = v ∧ Hid (∃ gs, RG l w i u gs wr)) (fun vi _ _ => n - (intOf vi).toNat)
    case atStart => exact ⟨0, _, Nat.zero_le _, rfl, rfl, HS0⟩
    case round =>
      clear HS0
      obtain ⟨i, u, hi, rfl, rfl, HG⟩ := hrel
      by_cases hlt : i < n
      · obtain ⟨b, o, rfl, c0⟩ := HC.out i hlt
        obtain ⟨gs, hG⟩ := HG.out
        have hgl : gs.length ≤ i := by have := congrArg List.length hG.eq; rw [List.length_map] at this; have := gP_len l i; omega
        obtain ⟨x, hx⟩ : ∃ x, x = atP l i := ⟨_, rfl⟩
        rw [← hx] at c0
        have c0 := bel_cell hG.bel c0
        have i1 : (i : Int) < (n : Int) := by omega
        have i2 : (0 : Int) ≤ (i : Int) := by omega
        have HD := Lib.hid (fun m => hG.more (below_drewN (Below.refl _ _) m))
        by_cases h0 : 0 < i
        · obtain ⟨m, hm⟩ : ∃ m, i = m + 1 := ⟨i - 1, by omega⟩
          obtain ⟨b', o', e', c1⟩ := HC.out m (by omega)
          cases e'
          have c1 := bel_cell hG.bel c1
          obtain ⟨y, hy⟩ : ∃ y, y = atP l m := ⟨_, rfl⟩
          rw [← hy] at c1
          have HY : Hid (y = atP l (i - 1)) := Lib.hid (by rw [hy, hm]; rfl)
          have HP0 := Lib.hid h0
          have w1 : IntKind.i64.wrap ((i : Int) - 1) = (m : Int) := by rw [IntWalk.i64_in _ (by omega)]; omega
          have w2 : (i : Int) - 1 = (m : Int) := by omega
          have w4 : IntKind.i64.wrap (m : Int) = (m : Int) := IntWalk.i64_in _ (by omega)
          have j5 : (m : Int) < (n : Int) := by omega
          have j6 : (0 : Int) ≤ (m : Int) := by omega
          have d0 : decide (0 < (i : Int)) = true := decide_eq_true (by omega)
          have d0' : decide (0 < i) = true := decide_eq_true h0
          have HNE : Hid (gs ≠ []) := Lib.hid (fun e => gP_pos (l := l) i h0 (by rw [← hG.eq, e]; rfl))
          clear hm hy h0
          by_cases hp : 0 < x
          · have d1 : decide (0 < x) = true := decide_eq_true hp
            by_cases hxy : x = y
            · have e1 : (x == y) = true := by rw [beq_iff_eq]; exact hxy
              have HST : Hid (staB l i = false) := Lib.hid ((sta_no l i).2 ⟨HP0.out, by rw [← hx]; exact hp, by rw [← hx, ← HY.out]; exact hxy⟩)
              clear hxy hp hx
              go_wp2
              go_quiet (fail)
              have hG5 := HD.out nq
              generalize wr.drewN nq = w5 at *
              clear hG HD
              obtain ⟨r, gx, hgs⟩ : ∃ r gx, gs = r ++ [gx] := by
                rcases List.eq_nil_or_concat gs with e | ⟨r, gx, e⟩
                · exact absurd e HNE.out
                · exact ⟨r, gx, by rw [e, List.concat_eq_append]⟩
              subst hgs
              obtain ⟨M, hM⟩ : ∃ M, M = r.length := ⟨_, rfl⟩
              have hlen : (r ++ [gx]).length = M + 1 := by rw [List.length_append, hM]; rfl
              rw [hlen] at hgl
              obtain ⟨g, cap, cur, rfl, hgB, hgb, hgcap⟩ : ∃ g cap cur, u = .slice (some ⟨g, 0, none⟩) (M + 1) cap ∧ w.heap.size ≤ g ∧ w5.heap[g]? = some (.cells cur 22 (0, 0)) ∧ M + 1 ≤ cap := by
                rcases hG5.o.own.own.2 with ⟨_, a⟩ | ⟨g, cap, cur, e, a1, a2, a3, _⟩
                · rw [hlen] at a; omega
                · rw [hlen] at e a3
                  exact ⟨g, cap, cur, e, a1, a2, a3⟩
              have c2 : w5.cell? ⟨g, M, none⟩ = some (.slice (some ⟨gx.b, 0, none⟩) gx.l.length gx.c) := by
                have hr := hG5.o.own.rowL rowGp.len
                obtain ⟨b2, o2, e2, _, hcc⟩ := row_get hr (k := M) (y := gx) (by rw [hM]; simp)
                cases e2
                have := hcc 0 _ rfl
                rw [Nat.zero_add, Nat.mul_one, Nat.add_zero] at this
                exact this
              have fz : w5.frozen? ⟨g, M, none⟩ = false := by
                unfold World.frozen?
                simp only [hgb]
                simp
              obtain ⟨hX1, hX2⟩ := hG5.o.row gx (by simp)
              have HX1 := Lib.hid hX1
              have hxl : gx.l.length ≤ 1000 := by
                have := gP_each l i gx.l (by rw [← hG5.eq]; exact List.mem_map.2 ⟨gx, by simp, rfl⟩)
                omega
              obtain ⟨xb, hxb⟩ : ∃ xb, xb = gx.b := ⟨_, rfl⟩
              obtain ⟨xc, hxc⟩ : ∃ xc, xc = gx.c := ⟨_, rfl⟩
              obtain ⟨xl, hxl2⟩ : ∃ xl, xl = gx.l := ⟨_, rfl⟩
              have HXE : Hid (gx = ⟨xb, xc, xl⟩) := Lib.hid (by rw [hxb, hxc, hxl2])
              have HX2 : Hid ((Value.slice (some ⟨g, 0, none⟩) (M + 1) cap).ownBlock ≠ some xb) := Lib.hid (by rw [hxb]; exact hX2)
              have HXO : Hid (ROwn 3 1 encI w.heap.size w5 (.slice (some ⟨xb, 0, none⟩) xl.length xc) xl) := Lib.hid (by rw [hxb, hxc, hxl2]; exact hX1)
              rw [← hxb, ← hxc, ← hxl2] at c2
              rw [← hxl2] at hxl
              have HG6 := Lib.hid hG5
              have HM := Lib.hid hM
              have HGB := Lib.hid hgb
              have k1 : (M : Int) < ((M + 1 : Nat) : Int) := by omega
              have k1' : (M : Int) < (M : Int) + 1 := by omega
              have k2 : (0 : Int) ≤ (M : Int) := by omega
              have k3 : IntKind.i64.wrap ((M : Int) + 1 - 1) = (M : Int) := by rw [IntWalk.i64_in _ (by omega)]; omega
              have k4 : IntKind.i64.wrap (M : Int) = (M : Int) := IntWalk.i64_in _ (by omega)
              have c2A := bel_cell (bel_alloc w5 (.cells #[.int .i64 (i : Int)] 3)) c2
              clear hX1 hX2 hG5 hxb hxc hxl2 hgb hM HX1 hlen
              go_wp2_with (at_builtin; refine wpList_rapp rowI rfl _ _ rfl HXO.out rfl (bel_alloc _ _) _ (i : Int) _ rfl (cs := #[.int .i64 (i : Int)]) rfl (heap_alloc_new _ _) (by omega) ?_; intro v1 w1x hO1 hC1; refine Hid.out ?_)
              have hc3 := hC1.cell c2 (fun e => HX2.out (by cases e; rfl))
              have hf3 : w1x.frozen? ⟨g, M, none⟩ = false := frozen_but hC1.but HGB.out (fun e => HX2.out (by cases e; rfl))
              obtain ⟨g1, cap1, n1, rfl, hn1⟩ := rown_form hO1 (by simp)
              obtain rfl : n1 = xl.length + 1 := by rw [hn1]; simp
              have HN1 : Hid (∃ gs, RG l w (i + 1) (.slice (some ⟨g, 0, none⟩) (M + 1) cap) gs (w1x.setCell ⟨g, M, none⟩ (.slice (some ⟨g1, 0, none⟩) (xl.length + 1) cap1))) := Lib.hid (by
                have hG := HG6.out
                rw [HXE.out] at hG
                have hsl : slG ⟨g1, cap1, xl ++ [(i : Int)]⟩ = .slice (some ⟨g1, 0, none⟩) (xl.length + 1) cap1 := by simp [slG]
                rw [← hsl] at hO1 hC1 ⊢
                obtain ⟨h1, h2⟩ := GpO.join (x' := ⟨g1, cap1, xl ++ [(i : Int)]⟩) hG.o hO1 hC1
                rw [← HM.out] at h1 h2
                refine ⟨_, h1, ?_, ?_⟩
                · have he := hG.eq
                  rw [List.map_append] at he
                  rw [List.map_append, gP_join HST.out he.symm]
                  rfl
                · exact hG.bel.trans (h2.below hG.bel.size (fun k hk e => by
                    rcases e with e | e
                    · omega
                    · have := (HXO.out.low (k := xb) rfl).1
                      have e2 : k = xb := e
                      omega)))
              clear hO1 hC1 hn1
              refine Lib.hid ?_
              go_wp2
              go_roundw
              case rel => exact ⟨i + 1, _, by omega, by go_num, rfl, HN1⟩
              case measure => simp [intOf]; omega
            · have e1 : (x == y) = false := beq_eq_false_iff_ne.2 hxy
              have HST : Hid (staB l i = true) := Lib.hid ((sta_iff l i).2 (.inr (.inr (by rw [← hx, ← HY.out]; exact hxy))))
              clear hxy hp hx
              go_wp2
              go_quiet (fail)
              have hG5 := HD.out nq
              generalize wr.drewN nq = w5 at *
              clear hG HD
              have hlim : gs.length ≤ 100000000 := by omega
              have hb8 := (bel_alloc w5 (.cells #[.int .i64 (i : Int)] 3))
              have hb9 := hb8.trans ((bel_alloc (w5.alloc (.cells #[.int .i64 (i : Int)] 3)) (.cells #[.slice (some ⟨w5.heap.size, 0, none⟩) 1 1] 22)).mono hb8.size)
              have HO := Lib.hid (hG5.o.own.more hb9)
              have HH := Lib.hid (And.intro hG5 hb9)
              clear hG5 hb8
              go_wp2_with (at_builtin; refine wpList_rapp rowGp rfl _ _ rfl HO.out rfl (Below.refl _ _) _ ⟨w5.heap.size, 1, [(i : Int)]⟩ _ rfl (cs := #[.slice (some ⟨w5.heap.size, 0, none⟩) 1 1]) rfl (by have h := heap_alloc_new (w5.alloc (.cells #[.int .i64 (i : Int)] 3)) (.cells #[.slice (some ⟨w5.heap.size, 0, none⟩) 1 1] 22); rw [World.size_alloc] at h; exact h) hlim ?_; intro v1 w1x hO1 hC1)
              have HN1 : Hid (∃ gs, RG l w (i + 1) v1 gs w1x) := Lib.hid (by
                obtain ⟨hG5, hb9⟩ := HH.out
                have hx1 : ROwn 3 1 encI w.heap.size (w5.alloc (.cells #[.int .i64 (i : Int)] 3)) (slG ⟨w5.heap.size, 1, [(i : Int)]⟩) [(i : Int)] := ROwn.new hG5.o.own.base [(i : Int)] rowI.len (cs := #[.int .i64 (i : Int)]) rfl (by simp)
                exact ⟨_, hG5.o.app hb9 (hx1.more (bel_alloc _ _)) (Nat.le_refl _) hO1 hC1, by rw [List.map_append, hG5.eq, gP_new HST.out]; rfl, (hG5.bel.trans (hb9.mono hG5.bel.size)).trans (hC1.below HO.out)⟩)
              clear hO1 hC1
              go_roundw
              case rel => exact ⟨i + 1, v1, by omega, by go_num, rfl, HN1⟩
              case measure => simp [intOf]; omega
          · have d1 : decide (0 < x) = false := decide_eq_false hp
            have HST : Hid (staB l i = true) := Lib.hid ((sta_iff l i).2 (.inr (.inl (by rw [← hx]; omega))))
            clear hp hx
            go_wp2
            go_quiet (fail)
            have hG5 := HD.out nq
            generalize wr.drewN nq = w5 at *
            clear hG HD
            have hlim : gs.length ≤ 100000000 := by omega
            have hb8 := (bel_alloc w5 (.cells #[.int .i64 (i : Int)] 3))
            have hb9 := hb8.trans ((bel_alloc (w5.alloc (.cells #[.int .i64 (i : Int)] 3)) (.cells #[.slice (some ⟨w5.heap.size, 0, none⟩) 1 1] 22)).mono hb8.size)
            have HO := Lib.hid (hG5.o.own.more hb9)
            have HH := Lib.hid (And.intro hG5 hb9)
            clear hG5 hb8
            go_wp2_with (at_builtin; refine wpList_rapp rowGp rfl _ _ rfl HO.out rfl (Below.refl _ _) _ ⟨w5.heap.size, 1, [(i : Int)]⟩ _ rfl (cs := #[.slice (some ⟨w5.heap.size, 0, none⟩) 1 1]) rfl (by have h := heap_alloc_new (w5.alloc (.cells #[.int .i64 (i : Int)] 3)) (.cells #[.slice (some ⟨w5.heap.size, 0, none⟩) 1 1] 22); rw [World.size_alloc] at h; exact h) hlim ?_; intro v1 w1x hO1 hC1)
            have HN1 : Hid (∃ gs, RG l w (i + 1) v1 gs w1x) := Lib.hid (by
              obtain ⟨hG5, hb9⟩ := HH.out
              have hx1 : ROwn 3 1 encI w.heap.size (w5.alloc (.cells #[.int .i64 (i : Int)] 3)) (slG ⟨w5.heap.size, 1, [(i : Int)]⟩) [(i : Int)] := ROwn.new hG5.o.own.base [(i : Int)] rowI.len (cs := #[.int .i64 (i : Int)]) rfl (by simp)
              exact ⟨_, hG5.o.app hb9 (hx1.more (bel_alloc _ _)) (Nat.le_refl _) hO1 hC1, by rw [List.map_append, hG5.eq, gP_new HST.out]; rfl, (hG5.bel.trans (hb9.mono hG5.bel.size)).trans (hC1.below HO.out)⟩)
            clear hO1 hC1
            go_roundw
            case rel => exact ⟨i + 1, v1, by omega, by go_num, rfl, HN1⟩
            case measure => simp [intOf]; omega
        · have d0 : decide (0 < (i : Int)) = false := decide_eq_false (by omega)
          have d0' : decide (0 < i) = false := decide_eq_false h0
          have HST : Hid (staB l i = true) := Lib.hid ((sta_iff l i).2 (.inl (by omega)))
          clear h0 hx
          go_wp2
          go_quiet (fail)
          have hG5 := HD.out nq
          generalize wr.drewN nq = w5 at *
          clear hG HD
          have hlim : gs.length ≤ 100000000 := by omega
          have hb8 := (bel_alloc w5 (.cells #[.int .i64 (i : Int)] 3))
          have hb9 := hb8.trans ((bel_alloc (w5.alloc (.cells #[.int .i64 (i : Int)] 3)) (.cells #[.slice (some ⟨w5.heap.size, 0, none⟩) 1 1] 22)).mono hb8.size)
          have HO := Lib.hid (hG5.o.own.more hb9)
          have HH := Lib.hid (And.intro hG5 hb9)
          clear hG5 hb8
          go_wp2_with (at_builtin; refine wpList_rapp rowGp rfl _ _ rfl HO.out rfl (Below.refl _ _) _ ⟨w5.heap.size, 1, [(i : Int)]⟩ _ rfl (cs := #[.slice (some ⟨w5.heap.size, 0, none⟩) 1 1]) rfl (by have h := heap_alloc_new (w5.alloc (.cells #[.int .i64 (i : Int)] 3)) (.cells #[.slice (some ⟨w5.heap.size, 0, none⟩) 1 1] 22); rw [World.size_alloc] at h; exact h) hlim ?_; intro v1 w1x hO1 hC1)
          have HN1 : Hid (∃ gs, RG l w (i + 1) v1 gs w1x) := Lib.hid (by
            obtain ⟨hG5, hb9⟩ := HH.out
            have hx1 : ROwn 3 1 encI w.heap.size (w5.alloc (.cells #[.int .i64 (i : Int)] 3)) (slG ⟨w5.heap.size, 1, [(i : Int)]⟩) [(i : Int)] := ROwn.new hG5.o.own.base [(i : Int)] rowI.len (cs := #[.int .i64 (i : Int)]) rfl (by simp)
            exact ⟨_, hG5.o.app hb9 (hx1.more (bel_alloc _ _)) (Nat.le_refl _) hO1 hC1, by rw [List.map_append, hG5.eq, gP_new HST.out]; rfl, (hG5.bel.trans (hb9.mono hG5.bel.size)).trans (hC1.below HO.out)⟩)
          clear hO1 hC1
          go_roundw
          case rel => exact ⟨i + 1, v1, by omega, by go_num, rfl, HN1⟩
          case measure => simp [intOf]; omega
      · have HF : Hid (RGrpR (grpP l) 0 w (.returned (.tuple #[u, .int .i64 0])) wr) := Lib.hid (by
          obtain ⟨gs, hG⟩ := HG.out
          exact ⟨u, gs, rfl, by rw [hG.eq]; unfold grpP; rw [if_pos HE.out, ← HN.out, show i = n by omega], hG.o, hG.bel⟩)
        have i1 : ¬ (i : Int) < (n : Int) := by omega
        clear hlt
        go_wp2
        refine bodyPost_ret (results_tmp2 rfl _ _ _) rfl ?_
        exact HF.out
end Go.Proofs.Ytggbflogndpnoaa
