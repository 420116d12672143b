/- slices.Values and maps.Keys at identifiers of legs as iterators; slices.Collect, slices.SortedFunc. -/
import Derived.Test.YtkghpapbifijcaaGreatDoorStkH
import Derived.Test.YtkghpapbifijcaaGreatDoorKitM
import Derived.RangeFuncWrites
import Derived.RangeFuncNested
import Derived.RangeFuncBox
import Derived.Maps.OwnIn
import Derived.Maps.Views
import Derived.Sort.MapsRangeIn
namespace Go.Proofs.YtkghpapbifijcaaGreatDoor
open Go.RowKit Go.Shelf Go.Maps Go.MapKept
open Go.WideElems (Fit rd rg pl rd_key rd_val rg_of rd_mk)
set_option linter.unusedSimpArgs false
set_option linter.unusedVariables false
attribute [local go_sem] Oper.semAt_some
attribute [local simp] wide_fn

abbrev lisT : TypeId := 48
abbrev encs1 (x : Lid) : Array Value := #[aggD x]
/-- the identifiers s lie in a row below n₀ -/
def InD (n₀ : Nat) (W : World) (A : Option Addr) (s : List Lid) : Prop := s = [] ∨ ∃ b o, A = some ⟨b, o, none⟩ ∧ b < n₀ ∧ b < W.heap.size ∧ ∀ (k : Nat) (x : Lid), s[k]? = some x → ∀ j u, (encD x)[j]? = some u → W.cell? ⟨b, o + k * 4 + j, none⟩ = some u
theorem InD.more {n₀ : Nat} {W W' : World} {A : Option Addr} {s : List Lid} (h : InD n₀ W A s) (hb : Below n₀ W W') : InD n₀ W' A s := by
  rcases h with h | ⟨b, o, e, h1, h2, h3⟩
  · exact .inl h
  · exact .inr ⟨b, o, e, h1, Nat.lt_of_lt_of_le h2 hb.size, fun k x hk j u hu => (hb.cell (p := ⟨b, o + k * 4 + j, none⟩) h1).trans (h3 k x hk j u hu)⟩
theorem inD_of {W : World} {A : Option Addr} {c : Nat} {s : List Lid} (h : LidL W (.slice A s.length c) s) : InD W.heap.size W A s := by
  obtain ⟨A', c', e1, h2⟩ := h
  simp only [Value.slice.injEq] at e1
  obtain ⟨rfl, _, rfl⟩ := e1
  rcases h2 with h | ⟨b, o, e, hlt, hc⟩
  · exact .inl h
  · exact .inr ⟨b, o, e, hlt, hlt, fun k x hk j u hu => hc k x j u hk hu⟩
/-- what a round keeps -/
def KpA (n₀ : Nat) (A B : World) : Prop := KeepsWalks A B ∧ Below n₀ A B
theorem kpA_t {n₀ : Nat} {A B C : World} (h : KpA n₀ A B) (k : KpA n₀ B C) : KpA n₀ A C := ⟨h.1.trans k.1, h.2.trans k.2⟩
theorem kpA_b {n₀ : Nat} {w : World} (hn : n₀ ≤ w.heap.size) (W : World) (l : Nat) (o o' : Obj) (hl : w.heap.size ≤ l) (h : W.heap[l]? = some o) (h1 : o.isCells = false) (h2 : o.isWalk = false) : KpA n₀ W (W.putObj l o') :=
  ⟨walksK_b (w := w) W l o o' hl h h1 h2, belowK_b hn W l o o' hl h h1 h2⟩

set_option maxRecDepth 100000 in
set_option maxHeartbeats 2000000 in
theorem vals1_in (l Bn n₀ : Nat) (A : Option Addr) (c : Nat) (s : List Lid) (J Jx : List Lid → World → Prop) (hs : s.length ≤ 1000)
    (hY : ∀ pre x W, J pre W → pre.length < s.length → YieldAt Fence.wide 8 Tryz.prog l (encs1 x) W fun e W' =>
      (e = .returned (.bool true) ∧ J (pre ++ [x]) W' ∧ KpA n₀ W W') ∨ (e = .returned (.bool false) ∧ Jx (pre ++ [x]) W'))
    (W : World) (hJ : AbidesFrom W.heap.size J) (hBn : W.cell? ⟨Bn, 0, none⟩ = some (.slice A s.length c)) (hr : InD n₀ W A s) (hn : n₀ ≤ W.heap.size) (h0 : J [] W) :
    CallsIn Fence.wide 9 Tryz.prog 147 #[.func (.yield l) #[] #[], .pointer (some ⟨Bn, 0, none⟩)] W fun e W' => (∃ v, e = .returned v) ∧
      ((∃ ys : List Lid, ys = s ∧ J ys W') ∨ (∃ pre, True ∧ Jx pre W')) := by
  refine callsIn_of_wp Tryz.func147 rfl trivial ?_ rfl
  simp only [Tryz.ntmps147, List.size_toArray, List.length_cons, List.length_nil, Nat.reduceAdd, Nat.reduceSub, Array.replicate_succ, Array.replicate_zero, List.push_toArray, List.append_toArray, List.nil_append, List.cons_append]
  have HR := Lib.hid hr
  have HY := Lib.hid hY
  have HJ := Lib.hid hJ
  clear hY hr hJ
  obtain ⟨n, hn'⟩ : ∃ n, n = s.length := ⟨_, rfl⟩
  have HN := Lib.hid hn'
  rw [← hn'] at hBn hs
  clear hn'
  gi_wp2
  gi_loopw [7] (fun i wr => ∃ k : Nat, k ≤ n ∧ i = .int .i64 (k : Int) ∧ J (s.take k) wr ∧ Hid (InD n₀ wr A s ∧ W.heap.size ≤ wr.heap.size)) (fun i _ => n - (intOf i).toNat)
  case atStart => exact ⟨0, Nat.zero_le _, rfl, h0, Lib.hid ⟨HR.out, Nat.le_refl _⟩⟩
  case round =>
    clear hBn h0
    obtain ⟨k, hk, rfl, hJk, HI⟩ := hrel
    by_cases hlt : k < n
    · obtain ⟨x, hx⟩ : ∃ x, s[k]? = some x := ⟨_, List.getElem?_eq_getElem (by have := HN.out; omega)⟩
      have hne : ¬ s = [] := by intro e; rw [e] at hx; cases hx
      obtain ⟨b, o, e1, hb0, hb1, hc⟩ := HI.out.1.resolve_left hne
      subst e1
      have z0 := hc k x hx 0 _ rfl
      have z1 := hc k x hx 1 _ rfl
      have z2 := hc k x hx 2 _ rfl
      have z3 := hc k x hx 3 _ rfl
      rw [Nat.add_zero] at z0
      have i0 : (0 : Int) ≤ (k : Int) := by omega
      have i1 : (k : Int) < (n : Int) := by omega
      have hpl : (s.take k).length < s.length := by rw [List.length_take]; have := HN.out; omega
      have hbA := bel_alloc wr (.cells #[.string x.car, .int .i64 x.num, .int .i64 x.day, .string x.frm] lidT)
      have hJ1 : J (s.take k) (wr.alloc (.cells #[.string x.car, .int .i64 x.num, .int .i64 x.day, .string x.frm] lidT)) := abide_below HJ.out hJk hbA
      obtain ⟨l0, l1, l2, l3⟩ := lid_new wr x
      obtain ⟨fn, tmps, assign, body, hy, hR⟩ := HY.out (s.take k) x _ hJ1 hpl
      dsimp only [encs1] at hy
      have HT : Hid (s.take k ++ [x] = s.take (k + 1)) := Lib.hid (by rw [List.take_add_one, hx]; rfl)
      have HB3 : Hid (∀ W3, KpA n₀ (wr.alloc (.cells #[.string x.car, .int .i64 x.num, .int .i64 x.day, .string x.frm] lidT)) W3 → InD n₀ W3 (some ⟨b, o, none⟩) s ∧ W.heap.size ≤ W3.heap.size) := Lib.hid (fun W3 h => ⟨(HI.out.1.more (hbA.mono (Nat.le_trans hn HI.out.2))).more h.2, Nat.le_trans HI.out.2 (Nat.le_trans hbA.size h.2.size)⟩)
      clear hc hne hJk hJ1 hbA
      gi_wp2
      refine hR.mono ?_
      rintro e W3 (⟨rfl, hJ3, hk3⟩ | ⟨rfl, hx3⟩)
      · have HI4 := Lib.hid (HB3.out W3 hk3)
        rw [HT.out] at hJ3
        gi_wp2
        go_roundw
        case rel => exact ⟨k + 1, by omega, by go_num, hJ3, HI4⟩
        case measure => simp [intOf]; omega
      · gi_wp2
        refine bodyPost_ret (results_none rfl _ _ _) rfl ?_
        exact ⟨⟨_, rfl⟩, .inr ⟨_, trivial, hx3⟩⟩
    · obtain rfl : k = n := by omega
      gi_wp2
      go_end0
      exact ⟨⟨_, rfl⟩, .inl ⟨s, rfl, by rw [HN.out, List.take_length] at hJk; exact hJk⟩⟩
/-- the contract of the iterator's value -/
theorem vals_stops (Bn n₀ : Nat) (A : Option Addr) (c : Nat) (s : List Lid) (hs : s.length ≤ 1000) (w : World) (hn : n₀ ≤ w.heap.size) (hBn : w.cell? ⟨Bn, 0, none⟩ = some (.slice A s.length c)) (hr : InD n₀ w A s) :
    SeqStopsK Fence.wide 9 Tryz.prog 147 #[.pointer (some ⟨Bn, 0, none⟩)] encs1 (KpA n₀) (fun ys => ys = s) (fun _ => True) s.length w := fun l J Jx W hW hJ _ hY h0 =>
  vals1_in l Bn n₀ A c s J Jx hs hY W hJ (bel_cell hW hBn) (hr.more (hW.mono hn)) (Nat.le_trans hn hW.size) h0

/-! ### the keys of the map of legs -/
theorem LegM.keys {w : World} {o : Own'} {b n : Nat} {g : Stk} (h : LegM w o b n g) : ∃ D0 : DataW Value, w.ownsMap Tryz.prog lidT Rh b n D0 ∧ Maps.size D0 ≤ n ∧
    (∀ key kl, keyOf Tryz.prog lidT key = some kl → Maps.has D0 kl = true → ∃ c, OkD c ∧ key = aggD c ∧ (g c).isSome = true) ∧
    (∀ c, (g c).isSome = true → OkD c ∧ ∀ kl, keyOf Tryz.prog lidT (aggD c) = some kl → Maps.has D0 kl = true) := by
  obtain ⟨hh, ⟨es, clock, hb, F, hs, hkk, hg⟩, h3⟩ := h
  have hsome : ∀ c, (hh c).isSome = (g c).isSome := fun c => by
    have := h3 c
    revert this
    cases g c with
    | none => intro h; rw [h]; rfl
    | some q => rintro ⟨a, e, _⟩; rw [e]; rfl
  have hread : ∀ x ∈ es.toList, keyOf Tryz.prog lidT x.key = some (rg Tryz.prog lidT Rh x).1 := fun x hx => by
    obtain ⟨y, hy⟩ := F.reads x hx
    rw [rg_of hy]
    exact rd_key hy
  refine ⟨.map ((es.toList.map (rg Tryz.prog lidT Rh)).foldr DataW.insert []), ⟨es, clock, hb, F, hs, rfl⟩, ?_, fun key kl hk hh0 => ?_, fun c hc => ?_⟩
  · show ((es.toList.map (rg Tryz.prog lidT Rh)).foldr DataW.insert []).length ≤ n
    rw [length_sorted]
    simpa using hs
  · rw [has_eq, List.any_eq_true] at hh0
    obtain ⟨p, hp, hsk⟩ := hh0
    rw [mem_sorted, List.mem_map] at hp
    obtain ⟨x, hx, rfl⟩ := hp
    have e1 := WideAt.sameKey_eq hsk
    have e2 := hread x hx
    rw [e1] at e2
    obtain ⟨c, hc, hok⟩ := hkk x hx
    have e3 : key = x.key := lidK.inj hk e2
    refine ⟨c, hok, e3.trans hc, ?_⟩
    rw [← hsome, (hg c x.val).2 ⟨x, hx, hc, rfl⟩]
    rfl
  · rw [← hsome] at hc
    obtain ⟨v, hv⟩ := Option.isSome_iff_exists.1 hc
    obtain ⟨x, hx, hxc, _⟩ := (hg c v).1 hv
    obtain ⟨c', hc', hok⟩ := hkk x hx
    obtain rfl : c = c' := aggD_inj _ _ (hxc.symm.trans hc')
    refine ⟨hok, fun kl hk => ?_⟩
    rw [has_eq, List.any_eq_true]
    refine ⟨rg Tryz.prog lidT Rh x, mem_sorted.2 (List.mem_map.2 ⟨x, hx, rfl⟩), ?_⟩
    have e2 := hread x hx
    rw [hxc, hk] at e2
    rw [← Option.some.inj e2]
    exact WideAt.sameKey_self (lidK.key hk)
/-- which keys have come -/
def ColD (g : Stk) (left : Lit → Bool) (ss : List Lid) : Prop := ss.Nodup ∧ ∀ c, c ∈ ss ↔ ((g c).isSome = true ∧ ∀ kl, keyOf Tryz.prog lidT (aggD c) = some kl → left kl = false)
theorem ColD.step {g : Stk} {left : Lit → Bool} {ss : List Lid} (h : ColD g left ss) {c : Lid} {kl : Lit} (hk : keyOf Tryz.prog lidT (aggD c) = some kl) (hl : left kl = true) (hc : (g c).isSome = true) : ColD g (fun z => left z && !z.sameKey kl) (ss ++ [c]) := by
  have hnew : c ∉ ss := fun hx => by have := ((h.2 c).1 hx).2 kl hk; rw [hl] at this; cases this
  refine ⟨List.nodup_append.2 ⟨h.1, by simp, fun a ha b hb => by simp at hb; subst hb; exact fun e => hnew (e ▸ ha)⟩, fun d => ?_⟩
  rw [List.mem_append, List.mem_singleton, h.2 d]
  constructor
  · rintro (⟨h1, h2⟩ | rfl)
    · exact ⟨h1, fun z hz => by show (left z && !z.sameKey kl) = false; rw [h2 z hz]; rfl⟩
    · refine ⟨hc, fun z hz => ?_⟩
      rw [hk] at hz
      cases hz
      show (left kl && !kl.sameKey kl) = false
      rw [WideAt.sameKey_self (lidK.key hk)]
      simp
  · rintro ⟨h1, h2⟩
    by_cases e : d = c
    · exact .inr e
    · refine .inl ⟨h1, fun z hz => ?_⟩
      have h3 : (left z && !z.sameKey kl) = false := h2 z hz
      have hne : z ≠ kl := fun e2 => by subst e2; exact e (aggD_inj _ _ (lidK.inj hz hk))
      rw [sameKey_ne hne] at h3
      simpa using h3
set_option maxRecDepth 100000 in
set_option maxHeartbeats 4000000 in
theorem keys1_in (l Bm b nn n₀ : Nat) (g : Stk) (o : Own') (J Jx : List Lid → World → Prop)
    (hY : ∀ pre x W, J pre W → pre.length < nn → YieldAt Fence.wide 8 Tryz.prog l (encs1 x) W fun e W' =>
      (e = .returned (.bool true) ∧ J (pre ++ [x]) W' ∧ KpA n₀ W W') ∨ (e = .returned (.bool false) ∧ Jx (pre ++ [x]) W'))
    (W : World) (hJ : AbidesFrom W.heap.size J) (hm : W.cell? ⟨Bm, 0, none⟩ = some (.map (some b))) (hM : LegM W o b nn g) (h0 : J [] W) :
    CallsIn Fence.wide 9 Tryz.prog 118 #[.func (.yield l) #[] #[], .pointer (some ⟨Bm, 0, none⟩)] W fun e W' => (∃ v, e = .returned v) ∧
      ((∃ ys : List Lid, (ys.Nodup ∧ (∀ c, c ∈ ys ↔ (g c).isSome = true) ∧ ys.length ≤ nn) ∧ J ys W') ∨ (∃ pre, True ∧ Jx pre W')) := by
  obtain ⟨D0, hown, hsz, hD1, hD2⟩ := hM.keys
  refine callsIn_of_wp Tryz.func118 rfl trivial ?_ rfl
  simp only [Tryz.ntmps118, List.size_toArray, List.length_cons, List.length_nil, Nat.reduceAdd, Nat.reduceSub, Array.replicate_succ, Array.replicate_zero, List.push_toArray, List.append_toArray, List.nil_append, List.cons_append]
  have HD1 := Lib.hid hD1
  have HD2 := Lib.hid hD2
  have HY := Lib.hid hY
  have HJ := Lib.hid hJ
  have HSZ := Lib.hid hsz
  clear hD1 hD2 hY hJ hM hsz
  gi_wp2_with (first
    | (gi_at_range; refine wpListIn_range_own _ rfl _ lgmT rfl lidT lgpT lidK Tryz.underlying69 _ b nn _ rfl hown ?_; intro w0 hrg0 hg0 hs0)
    | gi_in)
  go_frame
  gi_loopw [3] (fun _ wr => ∃ (left : Lit → Bool) (cnt : Nat) (ss : List Lid), wr.ranges Tryz.prog lidT Rh b W.heap.size nn D0 left cnt ∧ ss.length + cnt ≤ Maps.size D0 ∧ ColD g left ss ∧ (∀ kl, left kl = true → Maps.has D0 kl = true) ∧ J ss wr)
    (fun _ wr => wr.rangeLeft b W.heap.size)
  case atStart =>
    refine ⟨_, _, [], hrg0, by simp, ⟨List.nodup_nil, fun c => ⟨fun h => (by cases h), fun h => ?_⟩⟩, fun kl h => h, HJ.out [] W w0 none h0 hg0 (fun r e => by cases e)⟩
    obtain ⟨h1, h2⟩ := HD2.out c h.1
    obtain ⟨kl, hkl⟩ := key_lid c h1
    have := h.2 kl hkl
    rw [h2 kl hkl] at this
    cases this
  case round =>
    obtain ⟨left, cnt, ss, hrg, hcs, hC, hLh, hJs⟩ := hrel
    gi_wp2_with (first
      | (gi_at_next; refine wpListIn_next_ranges _ rfl _ rfl lidT lidK Rh id id (fun key kl hk => ⟨key, rfl⟩) (fun v _ _ => ⟨v, rfl⟩) b W.heap.size nn _ _ _ rfl hrg ?_ ?_)
      | gi_in)
    · intro hc0 hl0
      gi_wp2
      go_end0
      exact ⟨⟨_, rfl⟩, .inl ⟨ss, ⟨hC.1, fun c => (by rw [hC.2 c]; exact ⟨fun h => h.1, fun h => ⟨h, fun kl _ => hl0 kl⟩⟩), by have := HSZ.out; omega⟩, hJs⟩⟩
    · intro x c kl yd yp w2 cnt2 hkey hlk hv hat hrg2 hlt hg2 hs2 hen
      obtain ⟨d, hokd, rfl, hsd⟩ := HD1.out x kl hkey (hLh kl hlk)
      have hJ2 : J ss w2 := HJ.out ss wr w2 (some W.heap.size) hJs hg2 (fun r e => by cases e; exact ⟨Nat.le_refl _, hrg.iter_walk⟩)
      have hbA := bel_alloc w2 (.cells #[.string d.car, .int .i64 d.num, .int .i64 d.day, .string d.frm] lidT)
      have hJ3 : J ss (w2.alloc (.cells #[.string d.car, .int .i64 d.num, .int .i64 d.day, .string d.frm] lidT)) := abide_below HJ.out hJ2 hbA
      have hrg3 := hrg2.alloc (.cells #[.string d.car, .int .i64 d.num, .int .i64 d.day, .string d.frm] lidT)
      obtain ⟨l0, l1, l2, l3⟩ := lid_new w2 d
      obtain ⟨fn, tmps, assign, body, hy, hR⟩ := HY.out ss d _ hJ3 (by have := HSZ.out; omega)
      dsimp only [encs1] at hy
      have HC2 := Lib.hid (hC.step hkey hlk hsd)
      have HL2 : Hid (∀ z, (left z && !z.sameKey kl) = true → Maps.has D0 z = true) := Lib.hid (fun z hz => hLh z (by rw [Bool.and_eq_true] at hz; exact hz.1))
      clear hs2 hJ2 hbA hJs
      try dsimp only [id] at hen
      gi_wp2
      refine hR.mono ?_
      rintro e W3 (⟨rfl, hJ4, hk4⟩ | ⟨rfl, hJx4⟩)
      · gi_wp2
        have hrg4 := hrg3.of_walks hk4.1
        go_roundw
        case rel => exact ⟨_, cnt2, ss ++ [d], hrg4, by simp; omega, HC2.out, HL2.out, hJ4⟩
        case measure => rw [hrg4.left_eq, hrg.left_eq]; exact hlt
      · gi_wp2
        refine bodyPost_ret (results_none rfl _ _ _) rfl ?_
        exact ⟨⟨_, rfl⟩, .inr ⟨_, trivial, hJx4⟩⟩
theorem keys_stops (Bm b nn n₀ : Nat) (g : Stk) (o : Own') (w : World) (hn : n₀ ≤ w.heap.size) (hm : w.cell? ⟨Bm, 0, none⟩ = some (.map (some b))) (hM : LegM w o b nn g) (ho : o b = .map) :
    SeqStopsK Fence.wide 9 Tryz.prog 118 #[.pointer (some ⟨Bm, 0, none⟩)] encs1 (KpA n₀) (fun ys => ys.Nodup ∧ (∀ c, c ∈ ys ↔ (g c).isSome = true) ∧ ys.length ≤ nn) (fun _ => True) nn w := fun l J Jx W hW hJ _ hY h0 =>
  keys1_in l Bm b nn n₀ g o J Jx hY W hJ (bel_cell hW hm) (hM.same (Below.but (fun _ => False) hW) (fun k hk => hk.elim) ho) h0
end Go.Proofs.YtkghpapbifijcaaGreatDoor
