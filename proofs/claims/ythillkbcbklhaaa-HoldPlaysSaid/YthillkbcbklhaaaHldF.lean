/- slices.Contains at legs; a range over the holds; Held. -/
import Derived.Test.YthillkbcbklhaaaHldE2
import Derived.Maps.Views
import Derived.Maps.RangeWalk
namespace Go.Proofs.Ythillkbcbklhaaa
open Go.RowKit Go.Shelf Go.Maps Go.MapKept
open Go.WideElems (Fit rd rg pl rd_key rd_val rg_of rd_mk)
set_option linter.unusedSimpArgs false
set_option linter.unusedVariables false

theorem any_first {l : List Lid} {i x : Lid} {k : Nat} (hx : l[k]? = some x) (he : eqD i x = true) : l.any (eqD i) = true := List.any_eq_true.2 ⟨x, List.mem_of_getElem? hx, he⟩
theorem any_none {l : List Lid} {i : Lid} (h : ∀ (j : Nat) (x : Lid), l[j]? = some x → eqD i x = false) : l.any (eqD i) = false := by
  rw [List.any_eq_false]
  intro x hx
  obtain ⟨j, hj, rfl⟩ := List.getElem_of_mem hx
  rw [h j _ (List.getElem?_eq_getElem hj)]
  simp
set_option maxRecDepth 100000 in
set_option maxHeartbeats 4000000 in
theorem index_any (A : Option Addr) (c : Nat) (l : List Lid) (i : Lid) (w : World) (hl : l.length ≤ 1000) (hL : LidL w (.slice A l.length c) l) :
    Calls Try.prog 42 #[.slice A l.length c, aggD i] w fun e w' => ∃ r : Int, e = .returned (.int .i64 r) ∧ decide (0 ≤ r) = l.any (eqD i) ∧ Below w.heap.size w w' := by
  have hb := bel_alloc w (.cells #[.string i.car, .int .i64 i.num, .int .i64 i.day, .string i.frm] lidT)
  obtain ⟨q0, q1, q2, q3⟩ := lid_new w i
  have HL := Lib.hid (hL.more hb)
  have HB := Lib.hid hb
  have HF : Hid (∀ k x, l[k]? = some x → eqD i x = true → l.any (eqD i) = true) := Lib.hid (fun k x h1 h2 => any_first h1 h2)
  have HN : Hid ((∀ (j : Nat) (x : Lid), l[j]? = some x → eqD i x = false) → l.any (eqD i) = false) := Lib.hid any_none
  have HLN := Lib.hid hl
  generalize l.any (eqD i) = T at *
  clear hL hb hl
  go_enter Try.func42, Try.ntmps42
  go_upto_region 1 with fail
  generalize w.alloc (.cells #[.string i.car, .int .i64 i.num, .int .i64 i.day, .string i.frm] lidT) = w5 at *
  go_wp2
  go_loopw [8] (fun vi wr => ∃ k : Nat, k ≤ l.length ∧ vi = .int .i64 k ∧ Hid (∀ (j : Nat) (x : Lid), j < k → l[j]? = some x → eqD i x = false) ∧ Below w5.heap.size w5 wr) (fun vi _ => l.length - (intOf vi).toNat)
  case atStart => exact ⟨0, Nat.zero_le _, rfl, Lib.hid (fun j x hj => absurd hj (Nat.not_lt_zero _)), Below.refl _ _⟩
  case round =>
    obtain ⟨k, hk, rfl, HK, hSr⟩ := hrel
    by_cases hlt : k < l.length
    · obtain ⟨x, hx⟩ : ∃ x, l[k]? = some x := ⟨_, List.getElem?_eq_getElem hlt⟩
      obtain ⟨b, o, rfl, _, hc⟩ := row_get (RowL.more HL.out hSr) hx
      have x0 := hc 0 _ rfl
      have x1 := hc 1 _ rfl
      have x2 := hc 2 _ rfl
      have x3 := hc 3 _ rfl
      rw [Nat.add_zero] at x0
      have y0 := bel_cell hSr q0
      have y1 := bel_cell hSr q1
      have y2 := bel_cell hSr q2
      have y3 := bel_cell hSr q3
      have i1 : (0 : Int) ≤ (k : Int) := by omega
      have i2 : (k : Int) < (l.length : Int) := by omega
      have hk8 : k < 1000 := by have := HLN.out; omega
      have w1 : IntKind.i64.wrap ((k : Int) + 1) = (k : Int) + 1 := IntWalk.i64_in _ (by omega)
      have heq := fun W => run_eqD i x W
      have HX := Lib.hid hx
      clear hx hc
      cases hq : eqD i x with
      | true =>
        rw [hq] at heq
        have HR := Lib.hid (HF.out k x HX.out hq)
        clear hq q0 q1 q2 q3
        go_upto_region 4 with fail
        go_region
        go_wp2
        go_ret
        exact ⟨(k : Int), rfl, by rw [HR.out]; exact decide_eq_true (by omega), HB.out.trans (hSr.drew.mono HB.out.size)⟩
      | false =>
        rw [hq] at heq
        have HQ := Lib.hid hq
        clear hq
        go_upto_region 4 with fail
        go_region
        go_wp2
        go_roundw
        case rel =>
          refine ⟨k + 1, by omega, by go_num, Lib.hid (fun j y hj hy => ?_), hSr.drew⟩
          by_cases hjk : j = k
          · subst hjk
            rw [HX.out] at hy
            cases hy
            exact HQ.out
          · exact HK.out j y (by omega) hy
        case measure => simp [intOf]; omega
    · have HR := Lib.hid (HN.out (fun j y hy => HK.out j y (by have := (List.getElem?_eq_some_iff.1 hy).1; omega) hy))
      have i2 : ¬ (k : Int) < (l.length : Int) := by omega
      go_wp2
      go_ret
      exact ⟨-1, rfl, by rw [HR.out]; rfl, HB.out.trans (hSr.mono HB.out.size)⟩
set_option maxRecDepth 100000 in
set_option maxHeartbeats 1000000 in
theorem contains_any (A : Option Addr) (c : Nat) (l : List Lid) (i : Lid) (w : World) (hl : l.length ≤ 1000) (hL : LidL w (.slice A l.length c) l) :
    Calls Try.prog 34 #[.slice A l.length c, aggD i] w fun e w' => e = .returned (.bool (l.any (eqD i))) ∧ Below w.heap.size w w' := by
  have hb := bel_alloc w (.cells #[.string i.car, .int .i64 i.num, .int .i64 i.day, .string i.frm] lidT)
  obtain ⟨q0, q1, q2, q3⟩ := lid_new w i
  have K := Lib.hid (index_any A c l i (w.alloc (.cells #[.string i.car, .int .i64 i.num, .int .i64 i.day, .string i.frm] lidT)) hl (hL.more hb))
  have HB := Lib.hid hb
  generalize l.any (eqD i) = T at *
  clear hL hb hl
  go_enter Try.func34, Try.ntmps34
  go_upto_region 1 with fail
  generalize w.alloc (.cells #[.string i.car, .int .i64 i.num, .int .i64 i.day, .string i.frm] lidT) = w5 at *
  go_wp2_with (go_at_call 42; (with_reducible refine K.out.mono ?_); rintro e w6 ⟨r, rfl, hr, hb6⟩)
  go_ret
  exact ⟨by rw [← hr]; rfl, HB.out.trans (hb6.mono HB.out.size)⟩

/-! ### a range over the holds -/
theorem hs_nodup {hs : List Hd} (h : SrtH hs) : hs.Nodup := by
  have h1 := h.ord
  rw [List.nodup_iff_pairwise_ne]
  exact h1.imp (fun hab e => by subst e; exact ltH_irrefl _ hab)
/-- the map of the holds, as a range sees it -/
theorem HldAt.vals {w : World} {B mb n : Nat} {hs : List Hd} (h : HldAt w B mb n hs) : ∃ D0 : DataW Value, w.ownsMap Try.prog 3 Rh mb n D0 ∧ Maps.size D0 ≤ n ∧
    (∀ i kl, keyOf Try.prog 3 (.int .i64 i) = some kl → (-9223372036854775808 ≤ i ∧ i ≤ 9223372036854775807) → Maps.has D0 kl = (findH hs i).isSome ∧ ∀ x, findH hs i = some x → D0.atKey kl (.held zH) = .held (aggH x)) := by
  obtain ⟨es, clock, hb, F, hsz, hg⟩ := h.map
  have hown : w.ownsMap Try.prog 3 Rh mb n (.map ((es.toList.map (rg Try.prog 3 Rh)).foldr DataW.insert [])) := ⟨es, clock, hb, F, hsz, rfl⟩
  refine ⟨_, hown, hown.size_le, fun i kl hkl hi => ?_⟩
  have h1 := h.look hi
  obtain ⟨v, ps, hrun, hR⟩ := hown.look_ok intK Try.underlying56 (zeroH w) (show Rh zH = some (.held zH, []) from rfl) hkl
  rw [h1] at hrun
  simp only [Result.ok.injEq, Value.tuple.injEq, Array.mk.injEq, List.cons.injEq, Value.bool.injEq, and_true] at hrun
  refine ⟨hrun.2.symm, fun x hx => ?_⟩
  rw [hx] at hrun
  rw [← hrun.1] at hR
  have h2 : some (DataW.held (aggH x), ([] : List MemPlace)) = some (_, ps) := hR
  simp only [Option.some.injEq, Prod.mk.injEq] at h2
  exact h2.1.symm
/-- which holds have come -/
def ColH (hs : List Hd) (left : Lit → Bool) (ss : List Hd) : Prop := ss.Nodup ∧ ∀ h, h ∈ ss ↔ (h ∈ hs ∧ left (.int .i64 h.id) = false)
theorem ColH.step {hs : List Hd} {left : Lit → Bool} {ss : List Hd} (h : ColH hs left ss) (hs0 : SrtH hs) {x : Hd} (hx : x ∈ hs) (hl : left (.int .i64 x.id) = true) : ColH hs (fun z => left z && !z.sameKey (.int .i64 x.id)) (ss ++ [x]) := by
  have hnew : x ∉ ss := fun hx => by have := ((h.2 x).1 hx).2; rw [hl] at this; cases this
  refine ⟨List.nodup_append.2 ⟨h.1, by simp, fun a ha b hb => by simp at hb; subst hb; exact fun e => hnew (e ▸ ha)⟩, fun d => ?_⟩
  rw [List.mem_append, List.mem_singleton, h.2 d]
  constructor
  · rintro (⟨h1, h2⟩ | rfl)
    · exact ⟨h1, by show (left _ && !_) = false; rw [h2]; rfl⟩
    · refine ⟨hx, ?_⟩
      show (left (.int .i64 d.id) && !Lit.sameKey (.int .i64 d.id) (.int .i64 d.id)) = false
      simp [Lit.sameKey]
  · rintro ⟨h1, h2⟩
    by_cases e : d.id = x.id
    · refine .inr ?_
      have := (find_iff hs0.ids x.id d).2 ⟨h1, e⟩
      rw [(find_iff hs0.ids x.id x).2 ⟨hx, rfl⟩] at this
      exact (Option.some.inj this).symm
    · refine .inl ⟨h1, ?_⟩
      have h3 : (left (.int .i64 d.id) && !Lit.sameKey (.int .i64 d.id) (.int .i64 x.id)) = false := h2
      have h4 : Lit.sameKey (.int .i64 d.id) (.int .i64 x.id) = false := by simp [Lit.sameKey, e]
      rw [h4] at h3
      simpa using h3
theorem ColH.all {hs : List Hd} {left : Lit → Bool} {ss : List Hd} (h : ColH hs left ss) (hs0 : SrtH hs) (hl : ∀ kl, left kl = false) : ss.Perm hs :=
  (List.perm_ext_iff_of_nodup h.1 (hs_nodup hs0)).2 (fun x => by rw [h.2 x]; exact ⟨fun h => h.1, fun h => ⟨h, hl _⟩⟩)
theorem ColH.start {hs : List Hd} {D0 : DataW Value} {n : Nat} (hok : ∀ h ∈ hs, -9223372036854775808 ≤ h.id ∧ h.id ≤ 9223372036854775807) (hs0 : SrtH hs) (hD : ∀ i kl, keyOf Try.prog 3 (.int .i64 i) = some kl → (-9223372036854775808 ≤ i ∧ i ≤ 9223372036854775807) → Maps.has D0 kl = (findH hs i).isSome ∧ ∀ x, findH hs i = some x → D0.atKey kl (.held zH) = .held (aggH x)) : ColH hs (Maps.has D0) [] := by
  refine ⟨List.nodup_nil, fun h => ⟨fun hh => (by cases hh), fun hh => ?_⟩⟩
  obtain ⟨h1, h2⟩ := hh
  rw [(hD h.id _ (key_int h.id (hok h h1)) (hok h h1)).1, (find_iff hs0.ids h.id h).2 ⟨h1, rfl⟩] at h2
  cases h2
theorem int_bnd {a : Int} (h : (Lit.int .i64 a).wf = true) : -9223372036854775808 ≤ a ∧ a ≤ 9223372036854775807 := by
  have e1 : IntKind.i64.min = -9223372036854775808 := rfl
  have e2 : IntKind.i64.max = 9223372036854775807 := rfl
  simp only [Lit.wf, e1, e2, Bool.and_eq_true, decide_eq_true_eq] at h
  omega
theorem grown_of_below {W W' : World} (h : Below W.heap.size W W') : W.grownBy W' none := ⟨h.os, h.tape, h.output, h.size, fun k hk _ => h.block k hk⟩
theorem heldP_in (i : Lid) (s : ByteArray) : ∀ l : List Hd, (∀ h ∈ l, 1 ≤ h.cnt ∧ h.cnt ≤ 99) → 0 ≤ heldP i s l ∧ heldP i s l ≤ 99 * l.length
  | [], _ => by simp [heldP]
  | h :: r, hl => by
    have ih := heldP_in i s r (fun x hx => hl x (by simp [hx]))
    have h1 := hl h (by simp)
    simp only [heldP, List.length_cons]
    split <;> omega
theorem rgt_cnt {h : Hd} (hr : rgtH h = true) : 1 ≤ h.cnt ∧ h.cnt ≤ 99 := by
  unfold rgtH at hr
  simp only [Bool.and_eq_true, decide_eq_true_eq] at hr
  exact ⟨hr.1.1.2, hr.1.2⟩
set_option maxRecDepth 100000 in
set_option maxHeartbeats 1000000 in
theorem held_void (p : Option Addr) (i : Lid) (s : ByteArray) (w : World) (hv : VoidH w p) : Calls Try.prog 21 #[.pointer p, aggD i, .string s] w fun e w' => e = .returned (.int .i64 0) ∧ Below w.heap.size w w' := by
  have hb := bel_alloc w (.cells #[.string i.car, .int .i64 i.num, .int .i64 i.day, .string i.frm] lidT)
  have K := Lib.hid (isVoid_yes p _ (hv.more hb))
  have HB := Lib.hid hb
  clear hb hv
  go_enter Try.func21, Try.ntmps21
  go_wp2_with (go_at_call 25; (with_reducible refine K.out.mono ?_); rintro e w6 ⟨rfl, rfl⟩)
  go_ret
  exact ⟨rfl, HB.out⟩
set_option maxRecDepth 100000 in
set_option maxHeartbeats 8000000 in
theorem held_any {B mb n : Nat} {hs : List Hd} (i : Lid) (s : ByteArray) (w : World) (hS : HldAt w B mb n hs) (hn : n < 100000) :
    Calls Try.prog 21 #[.pointer (some ⟨B, 0, none⟩), aggD i, .string s] w fun e w' => e = .returned (.int .i64 (heldP i s hs)) ∧ Below w.heap.size w w' := by
  have hb := bel_alloc w (.cells #[.string i.car, .int .i64 i.num, .int .i64 i.day, .string i.frm] lidT)
  obtain ⟨q0, q1, q2, q3⟩ := lid_new w i
  have hS5 := hS.more hb
  have K0 := Lib.hid (isVoid_no B mb (w.alloc (.cells #[.string i.car, .int .i64 i.num, .int .i64 i.day, .string i.frm] lidT)) hS5.box)
  have c0 := hS5.box
  obtain ⟨D0, hown, hsz, hD⟩ := hS5.vals
  have hst := ColH.start (n := n) (fun h hh => ⟨(hS5.ok h hh).1.i0, (hS5.ok h hh).1.i1⟩) hS5.srt hD
  have HS5 := Lib.hid hS5
  have HD := Lib.hid hD
  have HB := Lib.hid hb
  have HST := Lib.hid hst
  have HSZ := Lib.hid hsz
  have HN := Lib.hid hn
  clear hS hS5 hD hb hst hsz hn
  go_enter Try.func21, Try.ntmps21
  go_upto_region 1 with fail
  generalize w.alloc (.cells #[.string i.car, .int .i64 i.num, .int .i64 i.day, .string i.frm] lidT) = w5 at *
  go_wp2_with (first
    | (go_at_call 25; (with_reducible refine K0.out.mono ?_); rintro e w6 ⟨rfl, rfl⟩)
    | (at_range; refine wpList_range_own _ rfl _ hmT rfl 3 hdT intK Try.underlying56 _ mb n _ rfl hown ?_; intro w0 hrg0 hg0 hs0))
  go_frame
  obtain ⟨rr, hrr⟩ : ∃ rr, rr = w6.heap.size := ⟨_, rfl⟩
  rw [← hrr] at hrg0 ⊢
  have HRR := Lib.hid hrr
  clear hrr
  go_loopw [7] (fun v7 wr => ∃ (left : Lit → Bool) (cnt : Nat) (ss : List Hd), v7 = .int .i64 (heldP i s ss) ∧ wr.ranges Try.prog 3 Rh mb rr n D0 left cnt ∧ Hid (ss.length + cnt ≤ Maps.size D0 ∧ ColH hs left ss ∧ (∀ kl, left kl = true → Maps.has D0 kl = true) ∧ Below w6.heap.size w6 wr)) (fun _ wr => wr.rangeLeft mb rr)
  case atStart => exact ⟨_, _, [], rfl, hrg0, Lib.hid ⟨by simp, HST.out, fun kl h => h, ⟨hg0.os, hg0.tape, hg0.output, hg0.size, fun k hk => hg0.block k hk (by simp)⟩⟩⟩
  case round =>
    clear hown hrg0
    obtain ⟨left, cnt, ss, rfl, hrg, HI⟩ := hrel
    go_wp2_with (at_next; refine wpList_next_ranges _ rfl _ rfl 3 intK Rh (fun x : Int => Value.int .i64 x) id (fun key kl hk => (by obtain ⟨x, e, _⟩ := Maps.keyOf_int_inv Try.underlying3 hk; exact ⟨x, e⟩)) (fun v _ _ => ⟨v, rfl⟩) mb rr n _ _ _ rfl hrg ?_ ?_)
    · intro hc0 hl0
      have HR : Hid (heldP i s ss = heldP i s hs) := Lib.hid (heldP_perm i s (HI.out.2.1.all HS5.out.srt hl0))
      go_wp2
      go_ret
      exact ⟨by rw [HR.out]; rfl, HB.out.trans (HI.out.2.2.2.mono HB.out.size)⟩
    · intro x c kl yd yp w2 cnt2 hkey hlk hv hat hrg2 hlt hg2 hs2 hen
      obtain ⟨x', e1, e2, hwf⟩ := Maps.keyOf_int_inv Try.underlying3 hkey
      simp only [Value.int.injEq, true_and] at e1
      subst e1
      have hx := int_bnd hwf
      have hd := HD.out x kl hkey hx
      rw [HI.out.2.2.1 kl hlk] at hd
      obtain ⟨y, hy⟩ := Option.isSome_iff_exists.1 hd.1.symm
      obtain ⟨hyin, hyid⟩ := find_some hy
      have ec : c = aggH y := by
        have h1 := hd.2 y hy
        rw [hat (.held zH)] at h1
        have h2 : yd = .held c := by
          have h3 := Option.some.inj (show some (DataW.held c, ([] : List MemPlace)) = some (yd, yp) from hv)
          exact (congrArg Prod.fst h3).symm
        rw [h2] at h1
        simpa using h1
      subst ec
      subst hyid
      subst e2
      have hbx : Below w6.heap.size w6 w2 := HI.out.2.2.2.trans ⟨hg2.os, hg2.tape, hg2.output, hg2.size, fun k hk => hg2.block k (by have := HI.out.2.2.2.size; omega) (fun e => by have := Option.some.inj e; have := HRR.out; omega)⟩
      have hbA := bel_alloc w2 (.cells #[.int .i64 y.id, .slice y.A y.l.length y.c, .string y.cls, .int .i64 y.cnt, .int .i64 y.til] hdT)
      have hb7 := hbx.trans (hbA.mono hbx.size)
      have hrg3 := hrg2.alloc (.cells #[.int .i64 y.id, .slice y.A y.l.length y.c, .string y.cls, .int .i64 y.cnt, .int .i64 y.til] hdT)
      have hyo := HS5.out.ok y hyin
      have KC := Lib.hid (contains_any y.A y.c y.l i (w2.alloc (.cells #[.int .i64 y.id, .slice y.A y.l.length y.c, .string y.cls, .int .i64 y.cnt, .int .i64 y.til] hdT)) hyo.1.len ((hyo.2.1.rowL y.c).more hb7))
      have z0 := hd_cells w2 y 0 _ rfl
      have z1 := hd_cells w2 y 1 _ rfl
      have z2 := hd_cells w2 y 2 _ rfl
      have z3 := hd_cells w2 y 3 _ rfl
      have u0 := bel_cell hb7 q0
      have u1 := bel_cell hb7 q1
      have u2 := bel_cell hb7 q2
      have u3 := bel_cell hb7 q3
      have HI2 : Hid ((ss ++ [y]).length + cnt2 ≤ Maps.size D0 ∧ ColH hs (fun z => left z && !z.sameKey (.int .i64 y.id)) (ss ++ [y]) ∧ (∀ kl, (left kl && !kl.sameKey (.int .i64 y.id)) = true → Maps.has D0 kl = true)) := Lib.hid ⟨by have := HI.out.1; rw [List.length_append, List.length_singleton]; omega, HI.out.2.1.step HS5.out.srt hyin hlk, fun z hz => HI.out.2.2.1 z (by rw [Bool.and_eq_true] at hz; exact hz.1)⟩
      have hin := heldP_in i s (ss ++ [y]) (fun h hh => rgt_cnt (HS5.out.ok h (((HI2.out.2.1).2 h).1 hh).1).2.2)
      have hwr : IntKind.i64.wrap (heldP i s (ss ++ [y])) = heldP i s (ss ++ [y]) := IntWalk.i64_in _ (by have := HI2.out.1; have := HSZ.out; have := HN.out; omega)
      have ha : heldP i s (ss ++ [y]) = heldP i s ss + if hldB i s y = true then y.cnt else 0 := by rw [heldP_app]; simp [heldP]
      have HB7 := Lib.hid hb7
      have HLT : Hid (cnt2 < cnt ∧ wr.rangeLeft mb rr = cnt) := Lib.hid ⟨hlt, hrg.left_eq⟩
      have HA := Lib.hid ha
      try dsimp only [id] at hen
      clear hd hat hv hlk hrg hrg2 hbx hbA hb7 hyo hin hkey hwf hy hg2 hs2 hlt ha
      cases hq : (y.cls.toList == s.toList) with
      | false =>
        have HR : Hid (heldP i s ss = heldP i s (ss ++ [y])) := Lib.hid (by rw [HA.out]; have : hldB i s y = false := (by unfold hldB eqS; rw [hq]; rfl); rw [this]; simp)
        go_wp2
        go_roundw
        case rel => exact ⟨_, cnt2, ss ++ [y], by first | rfl | exact HR.out | rw [HR.out], hrg3, Lib.hid ⟨HI2.out.1, HI2.out.2.1, HI2.out.2.2, HB7.out⟩⟩
        case measure => rw [hrg3.left_eq, HLT.out.2]; exact HLT.out.1
      | true =>
        cases hc : y.l.any (eqD i) with
        | false =>
          rw [hc] at KC
          have HR : Hid (heldP i s ss = heldP i s (ss ++ [y])) := Lib.hid (by rw [HA.out]; have : hldB i s y = false := (by unfold hldB eqS; rw [hq, hc]; rfl); rw [this]; simp)
          clear hc
          go_wp2_with (go_at_call 34; (with_reducible refine KC.out.mono ?_); rintro e w8 ⟨rfl, hb8⟩)
          have hrg4 := hrg3.kept (grown_of_below hb8) (by simp) (by simp)
          go_roundw
          case rel => exact ⟨_, cnt2, ss ++ [y], by first | rfl | exact HR.out | rw [HR.out], hrg4, Lib.hid ⟨HI2.out.1, HI2.out.2.1, HI2.out.2.2, HB7.out.trans (hb8.mono HB7.out.size)⟩⟩
          case measure => rw [hrg4.left_eq, HLT.out.2]; exact HLT.out.1
        | true =>
          rw [hc] at KC
          have HR : heldP i s ss + y.cnt = heldP i s (ss ++ [y]) := by rw [HA.out]; have : hldB i s y = true := (by unfold hldB eqS; rw [hq, hc]; rfl); rw [this]; simp
          have hwr : IntKind.i64.wrap (heldP i s ss + y.cnt) = heldP i s (ss ++ [y]) := by rw [HR]; exact hwr
          have HR2 := Lib.hid HR
          clear hc HR
          go_wp2_with (go_at_call 34; (with_reducible refine KC.out.mono ?_); rintro e w8 ⟨rfl, hb8⟩; have z3 := bel_cell hb8 z3)
          have hrg4 := hrg3.kept (grown_of_below hb8) (by simp) (by simp)
          go_roundw
          case rel => exact ⟨_, cnt2, ss ++ [y], by first | rfl | trivial | exact HR2.out | (rw [HR2.out]), hrg4, Lib.hid ⟨HI2.out.1, HI2.out.2.1, HI2.out.2.2, HB7.out.trans (hb8.mono HB7.out.size)⟩⟩
          case measure => rw [hrg4.left_eq, HLT.out.2]; exact HLT.out.1
end Go.Proofs.Ythillkbcbklhaaa
