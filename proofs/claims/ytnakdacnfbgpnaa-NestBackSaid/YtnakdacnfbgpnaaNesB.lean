/- slices.Backward at numbers: the contract of its iterator. -/
import Derived.RangeFuncNested
import Derived.RangeFuncBound
import Derived.RangeFuncCalls
import Derived.RangeFuncLeaves
import Derived.RangeFuncBox
import Derived.Shelf.Abstract
import Derived.Shelf.RegionOpen
import Derived.WalkKit
import Derived.OwnWalkIn
import Derived.TacticsInMore
import Derived.LoopNIn
import Derived.LoopIn
import Derived.Maps.AppendAt
import Derived.Sort.QuietIn
import Derived.Sort.BigQuietIn
import Derived.Test.YtnakdacnfbgpnaaNesP
namespace Go.Proofs.Ytnakdacnfbgpnaa
open Go.RowKit Go.Shelf
set_option linter.unusedSimpArgs false
set_option linter.unusedVariables false
attribute [local go_sem] Oper.semAt_some

theorem wide_fn (f : Nat) : Fence.wide.fn f := trivial
attribute [local simp] wide_fn
abbrev insT : TypeId := 25
abbrev inT : TypeId := 3
/-- a place of the list, with what is there -/
abbrev Bk (s : List Int) := { x : Nat × Int // s[x.1]? = some x.2 }
abbrev encB {s : List Int} (x : Bk s) : Array Value := #[.int .i64 (x.1.1 : Int), .int .i64 x.1.2]
/-- what a round keeps -/
def KpB (n₀ B : Nat) (W W' : World) : Prop := Below n₀ W W' ∧ W'.heap[B]? = W.heap[B]?
theorem kp_t {n₀ B : Nat} {X Y Z : World} (h : KpB n₀ B X Y) (k : KpB n₀ B Y Z) : KpB n₀ B X Z := ⟨h.1.trans k.1, k.2.trans h.2⟩
theorem kp_b {n₀ B : Nat} {w : World} (hn : n₀ ≤ w.heap.size) (hB : B < w.heap.size) (W : World) (l : Nat) (o o' : Obj) (hl : w.heap.size ≤ l) (h : W.heap[l]? = some o) (h1 : o.isCells = false) (h2 : o.isWalk = false) : KpB n₀ B W (W.putObj l o') :=
  ⟨belowK_b hn W l o o' hl h h1 h2, World.putObj_heap_other (by omega)⟩
theorem grown_of_below {W W' : World} (h : Below W.heap.size W W') : W.grownBy W' none := ⟨h.os, h.tape, h.output, h.size, fun k hk _ => h.block k hk⟩
theorem abide_below {β : Type} {B : Nat} {J : β → World → Prop} (hJ : AbidesFrom B J) {s : β} {W W' : World} (h : J s W) (hb : Below W.heap.size W W') : J s W' :=
  hJ s W W' none h (grown_of_below hb) (fun r e => by cases e)
theorem boxed_more {W W' : World} {B : Nat} {t : TypeId} {v : Value} (h : Boxed W B t v) (hb : Below W.heap.size W W') : Boxed W' B t v := (hb.block B h.lt).trans h
theorem zip_two (t : Array Value) (n m : Nat) (u v : Value) : Array.foldl (fun (t : Array Value) (x : Nat × Value) => t.setIfInBounds x.1 x.2) t (#[n, m].zip #[u, v]) = (t.setIfInBounds n u).setIfInBounds m v := by simp
/-- the places that have come; the first k that come -/
def bks {s : List Int} (l : List (Bk s)) : List Nat := l.map (fun x => x.1.1)
theorem bks_snoc {s : List Int} (l : List (Bk s)) (x : Bk s) : bks (l ++ [x]) = bks l ++ [x.1.1] := by simp [bks]
theorem bks_len {s : List Int} (l : List (Bk s)) : (bks l).length = l.length := by simp [bks]
def dn (n : Nat) : Nat → List Nat
  | 0 => []
  | k + 1 => dn n k ++ [n - 1 - k]
theorem dn_len (n : Nat) : ∀ k, (dn n k).length = k
  | 0 => rfl
  | k + 1 => by simp [dn, dn_len n k]
/-- the numbers s lie in a row below n₀ -/
def InB (n₀ : Nat) (W : World) (A : Option Addr) (s : List Int) : Prop := s = [] ∨ ∃ b o, A = some ⟨b, o, none⟩ ∧ b < n₀ ∧ b < W.heap.size ∧ ∀ (k : Nat) (x : Int), s[k]? = some x → W.cell? ⟨b, o + k, none⟩ = some (.int .i64 x)
theorem InB.more {n₀ : Nat} {W W' : World} {A : Option Addr} {s : List Int} (h : InB n₀ W A s) (hb : Below n₀ W W') : InB n₀ W' A s := by
  rcases h with h | ⟨b, o, e, h1, h2, h3⟩
  · exact .inl h
  · exact .inr ⟨b, o, e, h1, Nat.lt_of_lt_of_le h2 hb.size, fun k x hk => (hb.cell (p := ⟨b, o + k, none⟩) h1).trans (h3 k x hk)⟩
theorem inB_of {W : World} {A : Option Addr} {c : Nat} {s : List Int} (h : IntR W (.slice A s.length c) s) : InB W.heap.size W A s := by
  by_cases e : s = []
  · exact .inl e
  · obtain ⟨A', c', e1, h2⟩ := h
    simp only [Value.slice.injEq] at e1
    obtain ⟨rfl, _, rfl⟩ := e1
    rcases h2 with h | ⟨b, o, rfl, hlt, hc⟩
    · exact absurd h e
    · refine .inr ⟨b, o, rfl, hlt, hlt, fun k x hk => ?_⟩
      have := hc k x 0 _ hk rfl
      rw [Nat.mul_one, Nat.add_zero] at this
      exact this

set_option maxRecDepth 100000 in
set_option maxHeartbeats 2000000 in
theorem back1_in (l Bn n₀ : Nat) (A : Option Addr) (c : Nat) (s : List Int) (J Jx : List (Bk s) → World → Prop) (hs : s.length ≤ 1000)
    (hY : ∀ pre x W, J pre W → pre.length < s.length → YieldAt Fence.wide 8 Try.prog l (encB x) W fun e W' =>
      (e = .returned (.bool true) ∧ J (pre ++ [x]) W' ∧ KpB n₀ Bn W W') ∨ (e = .returned (.bool false) ∧ Jx (pre ++ [x]) W'))
    (W : World) (hBn : Boxed W Bn insT (.slice A s.length c)) (hr : InB n₀ W A s) (h0 : J [] W) :
    CallsIn Fence.wide 9 Try.prog 47 #[.func (.yield l) #[] #[], .pointer (some ⟨Bn, 0, none⟩)] W fun e W' => (∃ v, e = .returned v) ∧
      ((∃ ys : List (Bk s), bks ys = dn s.length s.length ∧ J ys W') ∨ (∃ pre, True ∧ Jx pre W')) := by
  refine callsIn_of_wp Try.func47 rfl trivial ?_ rfl
  simp only [Try.ntmps47, List.size_toArray, List.length_cons, List.length_nil, Nat.reduceAdd, Nat.reduceSub, Array.replicate_succ, Array.replicate_zero, List.push_toArray, List.append_toArray, List.nil_append, List.cons_append]
  have HBN := Lib.hid hBn
  have HR := Lib.hid hr
  have HY := Lib.hid hY
  have g0 := hBn.cell
  clear hY hBn hr
  obtain ⟨n, hn⟩ : ∃ n, n = s.length := ⟨_, rfl⟩
  have HN := Lib.hid hn
  rw [← hn] at HBN hs g0 ⊢
  clear hn
  gi_wp2
  gi_loopw [3] (fun i wr => ∃ (m : Nat) (pre : List (Bk s)), m ≤ n ∧ i = .int .i64 ((m : Int) - 1) ∧ Hid (bks pre = dn n (n - m)) ∧ J pre wr ∧ Boxed wr Bn insT (.slice A n c) ∧ Hid (InB n₀ wr A s)) (fun i _ => (intOf i + 1).toNat)
  case atStart => exact ⟨n, [], Nat.le_refl _, by go_num, Lib.hid (by rw [Nat.sub_self]; rfl), h0, HBN.out, HR⟩
  case round =>
    clear g0 h0
    obtain ⟨m, pre, hm, hi, HP, hJ, hB, HI⟩ := hrel
    cases m with
    | zero =>
      subst hi
      gi_wp2
      go_end0
      exact ⟨⟨_, rfl⟩, .inl ⟨pre, HP.out, hJ⟩⟩
    | succ q =>
      rw [show ((q + 1 : Nat) : Int) - 1 = (q : Int) by omega] at hi
      subst hi
      have g0 := hB.cell
      obtain ⟨x, hx⟩ : ∃ x, s[q]? = some x := ⟨_, List.getElem?_eq_getElem (by have := HN.out; omega)⟩
      have hne : ¬ s = [] := by intro e; rw [e] at hx; cases hx
      obtain ⟨b, o, e1, hb0, hb1, hc⟩ := HI.out.resolve_left hne
      subst e1
      have z0 := hc q x hx
      have i0 : (0 : Int) ≤ (q : Int) := by omega
      have i1 : (q : Int) < (n : Int) := by omega
      have hpl : pre.length < s.length := by
        have := congrArg List.length HP.out
        rw [bks_len, dn_len] at this
        have := HN.out
        omega
      obtain ⟨fn, tmps, assign, body, hy, hR⟩ := HY.out pre ⟨(q, x), hx⟩ wr hJ hpl
      dsimp only [encB] at hy
      have HB3 : Hid (∀ W3, KpB n₀ Bn wr W3 → Boxed W3 Bn insT (.slice (some ⟨b, o, none⟩) n c) ∧ InB n₀ W3 (some ⟨b, o, none⟩) s) := Lib.hid (fun W3 h => ⟨h.2.trans hB, HI.out.more h.1⟩)
      have HQ : Hid (bks (pre ++ [(⟨(q, x), hx⟩ : Bk s)]) = dn n (n - q)) := Lib.hid (by
        rw [bks_snoc, HP.out, show n - q = n - (q + 1) + 1 by omega, dn, show n - 1 - (n - (q + 1)) = q by omega])
      clear hc hne
      gi_wp2
      refine hR.mono ?_
      rintro e W3 (⟨rfl, hJ3, hk3⟩ | ⟨rfl, hx3⟩)
      · obtain ⟨hB4, hI4⟩ := HB3.out W3 hk3
        gi_wp2
        go_roundw
        case rel => exact ⟨q, pre ++ [⟨(q, x), hx⟩], by omega, by go_num, HQ, hJ3, hB4, Lib.hid hI4⟩
        case measure => simp [intOf]
      · gi_wp2
        refine bodyPost_ret (results_none rfl _ _ _) rfl ?_
        exact ⟨⟨_, rfl⟩, .inr ⟨_, trivial, hx3⟩⟩
/-- the contract of the iterator's value -/
theorem back_stops (Bn n₀ : Nat) (A : Option Addr) (c : Nat) (s : List Int) (hs : s.length ≤ 1000) (w : World) (hn : n₀ ≤ w.heap.size) (hBn : Boxed w Bn insT (.slice A s.length c)) (hr : InB n₀ w A s) :
    SeqStopsK Fence.wide 9 Try.prog 47 #[.pointer (some ⟨Bn, 0, none⟩)] (encB (s := s)) (KpB n₀ Bn) (fun ys => bks ys = dn s.length s.length) (fun _ => True) s.length w := fun l J Jx W hW hJ _ hY h0 =>
  back1_in l Bn n₀ A c s J Jx hs hY W (boxed_more hBn hW) (hr.more (hW.mono hn)) h0
set_option maxHeartbeats 1000000 in
theorem back_any (A : Option Addr) (n c : Nat) (w : World) : CallsIn Fence.wide 9 Try.prog 37 #[.slice A n c] w fun e w' => e = .returned (.func (.func 47) #[] #[.pointer (some ⟨w.heap.size, 0, none⟩)]) ∧ w' = w.alloc (.cells #[.slice A n c] insT) := by
  refine callsIn_of_wp Try.func37 rfl trivial ?_ rfl
  simp only [Try.ntmps37, List.size_toArray, List.length_cons, List.length_nil, Nat.reduceAdd, Nat.reduceSub, Array.replicate_succ, Array.replicate_zero, List.push_toArray, List.append_toArray, List.nil_append, List.cons_append]
  gi_wp2
  go_ret
  exact ⟨rfl, rfl⟩
end Go.Proofs.Ytnakdacnfbgpnaa
