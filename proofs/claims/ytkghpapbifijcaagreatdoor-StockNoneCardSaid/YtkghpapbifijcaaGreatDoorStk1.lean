/- A store into the map of legs; unsold; Open. -/
import Derived.Test.YtkghpapbifijcaaGreatDoorStkN
import Derived.OwnWalk
namespace Go.Proofs.YtkghpapbifijcaaGreatDoor
open Go.RowKit Go.Shelf Go.Maps Go.MapKept
open Go.WideElems (Fit rd rg pl rd_key rd_val rg_of rd_mk)
open Go.ChangeMaps (setBlock putKey notKey heap_setBlock_same heap_setBlock_other)
set_option linter.unusedSimpArgs false
set_option linter.unusedVariables false

/-- the map of the legs' addresses -/
def LegK (w : World) (b n : Nat) (g : Lid → Option Value) : Prop := ∃ es clock, w.heap[b]? = some (.map es clock) ∧ Fit Tryz.prog lidT Rh es clock ∧ es.size ≤ n ∧ (∀ x ∈ es.toList, ∃ c, x.key = aggD c ∧ OkD c) ∧ ∀ c v, g c = some v ↔ ∃ x ∈ es.toList, x.key = aggD c ∧ x.val = v
theorem LegK.store {w : World} {b n : Nat} {g : Lid → Option Value} (h : LegK w b n g) (hn : n < maxLen) {c : Lid} (hok : OkD c) (val : Value) :
    ∃ w', (Instr.mapUpdate lgmT (.map (some b)) (aggD c) val).run Tryz.prog w = .ok () w' ∧ LegK w' b (n + 1) (fun c' => if c' = c then some val else g c') ∧ w.grownBy w' (some b) := by
  obtain ⟨kl, hkey⟩ := key_lid c hok
  obtain ⟨es, clock, hb, F, hs, hkk, hg⟩ := h
  have hen := aggD_inj
  obtain ⟨es', clock', hrun, F', hput, _, _, hmem⟩ := Maps.fit_store (R' := Rh) lidK Tryz.underlying69 hb F (Nat.lt_of_le_of_lt hs hn) (fun _ _ _ _ hz => hz) hkey (show Rh val = some (.held val, []) from rfl)
  refine ⟨_, hrun, ⟨es', clock', heap_setBlock_same hb _, F', ?_, fun x hx => ?_, fun c' v => ?_⟩, ⟨rfl, rfl, rfl, by simp [setBlock], fun i _ hi => heap_setBlock_other hb _ (fun e => hi (by rw [e]))⟩⟩
  · have e1 : es'.size = ((es'.toList.map (rg Tryz.prog lidT Rh)).foldr DataW.insert []).length := by rw [length_sorted]; simp
    rw [e1, hput]
    unfold putKey
    rw [length_insert]
    have e2 := List.length_filter_le (notKey kl) ((es.toList.map (rg Tryz.prog lidT Rh)).foldr DataW.insert [])
    rw [length_sorted] at e2
    simp at e2
    omega
  · rcases hmem x hx with ⟨h1, _⟩ | ⟨h1, _⟩
    · exact hkk x h1
    · exact ⟨c, h1, hok⟩
  · -- who stands among the new entries
    have back : ∀ x, x ∈ es.toList → x.key ≠ aggD c → ∃ x' ∈ es'.toList, x'.key = x.key ∧ x'.val = x.val := by
      intro x hx hne
      obtain ⟨y, hy⟩ := F.reads x hx
      have hk := rd_key hy
      have h1 : rg Tryz.prog lidT Rh x ∈ (es'.toList.map (rg Tryz.prog lidT Rh)).foldr DataW.insert [] := by
        rw [hput]
        unfold putKey
        refine ChangeMaps.mem_insert_iff.2 (.inr (List.mem_filter.2 ⟨(WideShapes.sorted_perm _).mem_iff.2 (List.mem_map.2 ⟨x, hx, rfl⟩), ?_⟩))
        refine (notKey_iff (lidK.key hkey)).2 fun e1 => hne ?_
        rw [rd_h hk] at e1
        dsimp only at e1
        rw [e1] at hk
        exact lidK.inj hk hkey
      obtain ⟨x', hx', he'⟩ := List.mem_map.1 ((WideShapes.sorted_perm _).mem_iff.1 h1)
      obtain ⟨y', hy'⟩ := F'.reads x' hx'
      have hk' := rd_key hy'
      rw [rd_h hk, rd_h hk'] at he'
      simp only [Prod.mk.injEq, DataW.held.injEq] at he'
      refine ⟨x', hx', ?_, he'.2⟩
      rw [he'.1] at hk'
      exact lidK.inj hk' hk
    have new : ∃ x' ∈ es'.toList, x'.key = aggD c ∧ x'.val = val := by
      have h1 : ((kl, .held val) : Lit × DataW Value) ∈ (es'.toList.map (rg Tryz.prog lidT Rh)).foldr DataW.insert [] := by
        rw [hput]
        unfold putKey
        exact ChangeMaps.mem_insert_iff.2 (.inl rfl)
      obtain ⟨x', hx', he'⟩ := List.mem_map.1 ((WideShapes.sorted_perm _).mem_iff.1 h1)
      obtain ⟨y', hy'⟩ := F'.reads x' hx'
      have hk' := rd_key hy'
      rw [rd_h hk'] at he'
      simp only [Prod.mk.injEq, DataW.held.injEq] at he'
      refine ⟨x', hx', ?_, he'.2⟩
      rw [he'.1] at hk'
      exact lidK.inj hk' hkey
    have once : ∀ x ∈ es'.toList, ∀ x' ∈ es'.toList, x.key = x'.key → x.val = x'.val := by
      intro x hx x' hx' hxx
      have hn := ((stamped_iff es' clock').1 F'.stamped).2.2
      apply Classical.byContradiction
      intro hv
      have hne : x ≠ x' := fun e => hv (by rw [e])
      have := List.pairwise_iff_getElem.1 hn
      obtain ⟨i, hi, rfl⟩ := List.getElem_of_mem hx
      obtain ⟨j, hj, rfl⟩ := List.getElem_of_mem hx'
      rcases Nat.lt_trichotomy i j with h | h | h
      · exact this i j hi hj h hxx
      · subst h; exact hne rfl
      · exact this j i hj hi h hxx.symm
    by_cases hc : c' = c
    · subst hc
      show (if c' = c' then some val else g c') = some v ↔ _
      rw [if_pos rfl]
      obtain ⟨x', h1, h2, h3⟩ := new
      constructor
      · intro h
        cases h
        exact ⟨x', h1, h2, h3⟩
      · rintro ⟨x, hx, hxe, rfl⟩
        rw [once x hx x' h1 (hxe.trans h2.symm), h3]
    · show (if c' = c then some val else g c') = some v ↔ _
      rw [if_neg hc, hg]
      constructor
      · rintro ⟨x, hx, hxe, rfl⟩
        obtain ⟨x', h1, h2, h3⟩ := back x hx (fun e => hc (hen _ _ (hxe.symm.trans e)))
        exact ⟨x', h1, h2.trans hxe, h3⟩
      · rintro ⟨x, hx, hxe, rfl⟩
        rcases hmem x hx with ⟨h1, _⟩ | ⟨h1, _⟩
        · exact ⟨x, h1, hxe, rfl⟩
        · exact absurd (hen _ _ (hxe.symm.trans h1)) hc

theorem LegM.legK {w : World} {o : Own'} {b n : Nat} {g : Stk} (h : LegM w o b n g) : ∃ hh : Lid → Option Value, LegK w b n hh ∧ ∀ i, match g i with
      | some q => ∃ a, hh i = some (.pointer (some ⟨a, 0, none⟩)) ∧ LegAt w o i a q
      | none => hh i = none := h
/-- a new leg -/
theorem LegM.put {w : World} {o : Own'} {b n : Nat} {g : Stk} (h : LegM w o b n g) (ho : o b = .map) (hn : n < maxLen) {i : Lid} (hok : OkD i) {a : Nat} {q : Lg} (ha : LegAt w o i a q) :
    ∃ w', (Instr.mapUpdate lgmT (.map (some b)) (aggD i) (.pointer (some ⟨a, 0, none⟩))).run Tryz.prog w = .ok () w' ∧ LegM w' o b (n + 1) (updS g i q) ∧ w.grownBy w' (some b) := by
  obtain ⟨hh, hK, h3⟩ := h.legK
  obtain ⟨w', hrun, hK', hgr⟩ := hK.store hn hok (.pointer (some ⟨a, 0, none⟩))
  have hbut : But w w' (fun k => k = b) := ⟨hgr.os, hgr.tape, hgr.output, hgr.size, fun k hk hne => hgr.block k hk (fun e => hne (Option.some.inj e))⟩
  have hx : ∀ k j, (k = b) → (∀ m, o k ≠ .row j m) ∧ o k ≠ .sl j ∧ o k ≠ .leg j := fun k j e => by rw [e, ho]; exact ⟨fun m h => (nomatch h), fun h => (nomatch h), fun h => (nomatch h)⟩
  refine ⟨w', hrun, ⟨_, hK', fun j => ?_⟩, hgr⟩
  unfold updS
  by_cases e : j = i
  · subst e
    rw [if_pos rfl]
    exact ⟨a, if_pos rfl, ha.but hbut (fun k hk => hx k _ hk)⟩
  · rw [if_neg e]
    have h4 := h3 j
    revert h4
    cases g j with
    | none => intro h; show (if j = i then _ else hh j) = none; rw [if_neg e]; exact h
    | some p => rintro ⟨a2, e2, h5⟩; exact ⟨a2, by show (if j = i then _ else hh j) = _; rw [if_neg e]; exact e2, h5.but hbut (fun k hk => hx k _ hk)⟩
theorem LegM.own {w : World} {o o' : Own'} {b n : Nat} {g : Stk} (h : LegM w o b n g) (hx : ∀ k i, k < w.heap.size → (g i).isSome = true → (o k = .leg i ∨ o k = .sl i ∨ ∃ j, o k = .row i j) → o' k = o k) : LegM w o' b n g := by
  obtain ⟨hh, hK, h3⟩ := h
  refine ⟨hh, hK, fun j => ?_⟩
  have h4 := h3 j
  cases hg : g j with
  | none => rw [hg] at h4; exact h4
  | some p =>
    rw [hg] at h4
    obtain ⟨a2, e2, h5⟩ := h4
    exact ⟨a2, e2, h5.own (fun k hk h => hx k j hk (by rw [hg]; rfl) h)⟩

/-! ### unsold -/
abbrev rowsT : TypeId := 91
abbrev rowT : TypeId := 98
def encP (p : Nat × Nat) : List Value := [.slice (some ⟨p.1, 0, none⟩) p.2 p.2]
theorem rowP : RT Tryz.prog rowsT rowT 1 encP where
  ht := Tryz.underlying91
  info := ⟨.slice none 0 0, 24, by kernel_rfl, rfl, by omega⟩
  len x := rfl
  one x u hu := by simp [encP] at hu; rcases hu with rfl; rfl
  pos := by omega
/-- the rows that have been made -/
structure UnsR (N : Nat) (w : World) (v : Value) (l : List Cb) (L : List (Nat × Nat)) : Prop where
  row : ROwn rowT 1 encP N w v L
  len : L.map Prod.snd = l.map fun b => b.l.length
  at' : ∀ p ∈ L, Row w p.1 (List.replicate p.2 0) ∧ N ≤ p.1 ∧ v.ownBlock ≠ some p.1
  asc : (L.map Prod.fst).Pairwise (· < ·)
theorem UnsR.nil (w : World) : UnsR w.heap.size w (.slice none 0 0) [] [] := ⟨ROwn.nil (Nat.le_refl _), rfl, fun p hp => (by cases hp), List.Pairwise.nil⟩
theorem UnsR.app {N : Nat} {w W w' : World} {v v' : Value} {l : List Cb} {L : List (Nat × Nat)} {b : Cb} {g : Nat} (h : UnsR N w v l L) (hb : Below w.heap.size w W) (hg : Row W g (List.replicate b.l.length 0)) (hgw : w.heap.size ≤ g) (hO : ROwn rowT 1 encP N w' v' (L ++ [(g, b.l.length)])) (hC : Chg W w' v v') : UnsR N w' v' (l ++ [b]) (L ++ [(g, b.l.length)]) := by
  have hvg : v.ownBlock ≠ some g := fun e => by have := (h.row.low e).2; omega
  have hold : ∀ p ∈ L ++ [(g, b.l.length)], Row W p.1 (List.replicate p.2 0) ∧ N ≤ p.1 ∧ v.ownBlock ≠ some p.1 := fun p hp => by
    rcases List.mem_append.1 hp with hp | hp
    · obtain ⟨h1, h2, h3⟩ := h.at' p hp
      exact ⟨h1.more hb, h2, h3⟩
    · rw [List.mem_singleton.1 hp]
      exact ⟨hg, Nat.le_trans h.row.base hgw, hvg⟩
  refine ⟨hO, by rw [List.map_append, List.map_append, h.len]; rfl, fun p hp => ?_, ?_⟩
  · obtain ⟨h1, h2, h3⟩ := hold p hp
    refine ⟨h1.but hC.but h3, h2, fun e => ?_⟩
    rcases hC.own _ e with h4 | h4
    · exact h3 h4
    · have := h1.lt; omega
  · rw [List.map_append, List.pairwise_append]
    refine ⟨h.asc, List.pairwise_singleton _ _, fun x hx y hy => ?_⟩
    obtain ⟨p, hp, rfl⟩ := List.mem_map.1 hx
    simp only [List.map_cons, List.map_nil, List.mem_singleton] at hy
    subst hy
    have := (h.at' p hp).1.lt
    omega
theorem mk_own (W : World) (n : Nat) : True := trivial
set_option maxRecDepth 100000 in
set_option maxHeartbeats 8000000 in
theorem unsold_any (f : Cf) (w : World) (hf : CfAt w f) (hs : smallF f) :
    Calls Tryz.prog 70 #[aggCf f] w fun e w' => ∃ v L, e = .returned v ∧ UnsR w.heap.size w' v f.l L ∧ Below w.heap.size w w' := by
  obtain ⟨i0, hi, hz0, hz1, hz2⟩ := info_parts intT
  have HI := Lib.hid hi
  have HZ0 := Lib.hid hz0
  have HZ1 := Lib.hid hz1
  have HZ2 := Lib.hid hz2
  have hbA := bel_alloc w (.cells #[.string f.equip, .slice f.A f.l.length f.c] cfT)
  have q0 := (cells_new w #[.string f.equip, .slice f.A f.l.length f.c] cfT 0).trans (show _ = some (Value.string f.equip) from rfl)
  have q1 := (cells_new w #[.string f.equip, .slice f.A f.l.length f.c] cfT 1).trans (show _ = some (Value.slice f.A f.l.length f.c) from rfl)
  have HF := Lib.hid hf
  have HS := Lib.hid hs
  obtain ⟨m, hm⟩ : ∃ m, m = f.l.length := ⟨_, rfl⟩
  have HM := Lib.hid hm
  have hm8 : m ≤ 8 := by rw [hm]; exact hs.1
  rw [← hm] at q1
  clear hi hz0 hz1 hz2 hf hs
  rw [show aggCf f = .agg #[.string f.equip, .slice f.A m f.c] by rw [hm]]
  rw [← hm] at hbA q0
  clear hm
  go_enter Tryz.func70, Tryz.ntmps70
  go_upto_region 1 with fail
  generalize w.alloc (.cells #[.string f.equip, .slice f.A m f.c] cfT) = w5 at *
  go_wp2
  go_loopw [9, 3] (fun vi vn wr => ∃ (k : Nat) (v : Value), k ≤ m ∧ vi = .int .i64 k ∧ v = vn ∧ Hid ((∃ L, UnsR w.heap.size wr v (f.l.take k) L) ∧ SW w wr)) (fun vi _ _ => m - (intOf vi).toNat)
  case atStart => exact ⟨0, _, Nat.zero_le _, rfl, rfl, Lib.hid ⟨⟨[], ⟨⟨World.ownsRow_nil _ _ _ _, hbA.size⟩, rfl, fun p hp => (by cases hp), List.Pairwise.nil⟩⟩, hbA⟩⟩
  case round =>
    obtain ⟨k, v, hk, rfl, rfl, HH⟩ := hrel
    by_cases hlt : k < m
    · obtain ⟨b, hb⟩ : ∃ b, f.l[k]? = some b := ⟨_, List.getElem?_eq_getElem (by have := HM.out; omega)⟩
      have hSr : SW w wr := HH.out.2
      obtain ⟨gg, oo, hA, k0, k1, k2, k3⟩ := cab_cells (CfAt.more HF.out hSr) hb
      rw [Nat.add_zero] at k0
      rw [hA]
      have j2 : (k : Int) < (m : Int) := by omega
      have hB30 : b.l.length ≤ 30 := HS.out.2 b (List.mem_of_getElem? hb)
      have HT : Hid (f.l.take (k + 1) = f.l.take k ++ [b]) := Lib.hid (by rw [List.take_add_one, hb]; rfl)
      obtain ⟨L, hU⟩ := HH.out.1
      have HLn : Hid (L.length ≤ 100000000) := Lib.hid (by
        have h1 := congrArg List.length hU.len
        rw [List.length_map, List.length_map, List.length_take] at h1
        omega)
      obtain ⟨m0, m1, m2, m3⟩ := cb_new wr b
      have hbB := bel_alloc wr (.cells #[.string b.name, .int .i64 b.seats, .int .i64 b.over, .slice b.A b.l.length b.c] cbT)
      have HU := Lib.hid hU
      clear hb HH hU
      generalize f.l.take k = l0 at *
      obtain ⟨cn, hcn⟩ : ∃ cn, cn = b.l.length := ⟨_, rfl⟩
      have HCN := Lib.hid hcn
      rw [← hcn] at hB30 k3 m0 m1 m2 m3 hbB
      clear hcn
      go_upto_region 5 with fail
      clear k0 k1 k2 k3
      generalize wr.alloc (.cells #[.string b.name, .int .i64 b.seats, .int .i64 b.over, .slice b.A cn b.c] cbT) = w8 at *
      have HQ : Hid (∀ v' w', ROwn rowT 1 encP w.heap.size w' v' (L ++ [(w8.heap.size, cn)]) → Chg (w8.alloc (.cells (madeCells #[.int .i64 0] cn) 3)) w' v v' → UnsR w.heap.size w' v' (l0 ++ [b]) (L ++ [(w8.heap.size, cn)]) ∧ SW w w') := Lib.hid (fun v' w' hO hC => by
        have hbC := bel_alloc w8 (.cells (madeCells #[.int .i64 0] cn) 3)
        have hbD := hbB.trans (hbC.mono hbB.size)
        have hR := Row.made w8 cn 3
        rw [HCN.out] at hR hO hC hbD ⊢
        refine ⟨HU.out.app hbD hR hbB.size hO hC, Below.trans hSr (Below.trans (hbD.mono hSr.size) (hC.but.below (Nat.le_trans hSr.size hbD.size) (fun k hk e => by have := (HU.out.row.low e).1; omega)))⟩)
      have hO := (HU.out.row.more hbB).more (bel_alloc w8 (.cells (madeCells #[.int .i64 0] cn) 3))
      clear hbB
      go_wp2_with (first
        | (at_make; refine wpList_make_row _ rfl _ _ 98 rfl 3 i0 (.int .i64 0) Tryz.underlying98 HI.out HZ0.out HZ1.out rfl _ _ cn rfl rfl (by rw [HZ2.out]; omega) (by omega) ?_)
        | (at_builtin; refine wpList_rapp rowP rfl _ _ rfl hO rfl (bel_alloc _ _) _ (w8.heap.size, cn) _ rfl (cs := #[.slice (some ⟨w8.heap.size, 0, none⟩) cn cn]) rfl (by have h := heap_alloc_new (w8.alloc (.cells (madeCells #[.int .i64 0] cn) 3)) (.cells #[.slice (some ⟨w8.heap.size, 0, none⟩) cn cn] rowT); rw [World.size_alloc] at h; exact h) HLn.out ?_; intro v10 w10 hO10 hC10))
      have HY : Hid ((∃ L, UnsR w.heap.size w10 v10 (f.l.take (k + 1)) L) ∧ SW w w10) := Lib.hid ⟨⟨_, by rw [HT.out]; exact (HQ.out _ _ hO10 hC10).1⟩, (HQ.out _ _ hO10 hC10).2⟩
      clear hO hO10 hC10
      go_roundw
      case rel => exact ⟨k + 1, _, by omega, by go_num, rfl, HY⟩
      case measure => simp [intOf]; omega
    · obtain rfl : k = m := by omega
      have HY : Hid ((∃ L, UnsR w.heap.size wr v f.l L) ∧ SW w wr) := Lib.hid (by
        have h := HH.out
        rw [HM.out, List.take_length] at h
        exact h)
      clear HH
      go_wp2
      go_ret
      obtain ⟨⟨L, hU⟩, hb⟩ := HY.out
      exact ⟨_, L, rfl, hU, hb⟩
end Go.Proofs.YtkghpapbifijcaaGreatDoor
