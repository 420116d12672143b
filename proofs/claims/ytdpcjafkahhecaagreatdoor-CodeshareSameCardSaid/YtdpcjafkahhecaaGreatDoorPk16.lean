/- Words and walks that the laws below ask: ShrM, ShrN. -/
import Derived.RangeFuncNested
import Derived.RangeFuncBound
import Derived.RangeFuncCalls
import Derived.RangeFuncLeaves
import Derived.RangeFuncBox
import Derived.Shelf.Abstract
import Derived.Shelf.RegionOpen
import Derived.WalkKit
import Derived.OwnWalkIn
import Derived.TacticsInMore
import Derived.LoopNIn
import Derived.LoopIn
import Derived.Maps.AppendAt
import Derived.Sort.QuietIn
import Derived.Sort.BigQuietIn
import Derived.Test.YtdpcjafkahhecaaGreatDoorPk15
/- slices.Backward at flights: the contract of its iterator; what abides a loop over it. -/
namespace Go.Proofs.YtdpcjafkahhecaaGreatDoor
open Go.RowKit Go.Shelf Go.Maps
set_option linter.unusedSimpArgs false
set_option linter.unusedVariables false
attribute [local go_sem] Oper.semAt_some

theorem wide_fn (f : Nat) : Fence.wide.fn f := trivial
attribute [local simp] wide_fn
abbrev flsT : TypeId := 26
/-- a place of the list, with what is there -/
abbrev Bf (s : List FV) := { x : Nat × FV // s[x.1]? = some x.2 }
abbrev encBf {s : List FV} (x : Bf s) : Array Value := #[.int .i64 (x.1.1 : Int), encFl x.1.2]
/-- what a round keeps -/
def KpB (n₀ B : Nat) (W W' : World) : Prop := Below n₀ W W' ∧ W'.heap[B]? = W.heap[B]?
theorem kp_t {n₀ B : Nat} {X Y Z : World} (h : KpB n₀ B X Y) (k : KpB n₀ B Y Z) : KpB n₀ B X Z := ⟨h.1.trans k.1, k.2.trans h.2⟩
theorem kp_b {n₀ B : Nat} {w : World} (hn : n₀ ≤ w.heap.size) (hB : B < w.heap.size) (W : World) (l : Nat) (o o' : Obj) (hl : w.heap.size ≤ l) (h : W.heap[l]? = some o) (h1 : o.isCells = false) (h2 : o.isWalk = false) : KpB n₀ B W (W.putObj l o') :=
  ⟨belowK_b hn W l o o' hl h h1 h2, World.putObj_heap_other (by omega)⟩
theorem boxed_more {W W' : World} {B : Nat} {t : TypeId} {v : Value} (h : Boxed W B t v) (hb : Below W.heap.size W W') : Boxed W' B t v := (hb.block B h.lt).trans h
theorem zip_two (t : Array Value) (n m : Nat) (u v : Value) : Array.foldl (fun (t : Array Value) (x : Nat × Value) => t.setIfInBounds x.1 x.2) t (#[n, m].zip #[u, v]) = (t.setIfInBounds n u).setIfInBounds m v := by simp
/-- the places that have come; the first k that come -/
def bkf {s : List FV} (l : List (Bf s)) : List Nat := l.map (fun x => x.1.1)
theorem bkf_snoc {s : List FV} (l : List (Bf s)) (x : Bf s) : bkf (l ++ [x]) = bkf l ++ [x.1.1] := by simp [bkf]
theorem bkf_len {s : List FV} (l : List (Bf s)) : (bkf l).length = l.length := by simp [bkf]
def dn (n : Nat) : Nat → List Nat
  | 0 => []
  | k + 1 => dn n k ++ [n - 1 - k]
theorem dn_len (n : Nat) : ∀ k, (dn n k).length = k
  | 0 => rfl
  | k + 1 => by simp [dn, dn_len n k]
/-- the flights that have come, the last one first -/
def hadF {s : List FV} (l : List (Bf s)) : List FV := (l.map (fun x => x.1.2)).reverse
theorem hadF_snoc {s : List FV} (l : List (Bf s)) (x : Bf s) : hadF (l ++ [x]) = x.1.2 :: hadF l := by simp [hadF]
theorem hadF_dn {s : List FV} : ∀ (k : Nat) (l : List (Bf s)), k ≤ s.length → bkf l = dn s.length k → hadF l = s.drop (s.length - k)
  | 0, l, hk, h => by
    have : l = [] := by
      have := congrArg List.length h
      rw [bkf_len, dn_len] at this
      exact List.eq_nil_of_length_eq_zero this
    subst this
    rw [Nat.sub_zero, List.drop_length]
    rfl
  | k + 1, l, hk, h => by
    obtain ⟨q, x, rfl⟩ : ∃ q x, l = q ++ [x] := by
      rcases List.eq_nil_or_concat l with e | ⟨q, x, e⟩
      · subst e
        have := congrArg List.length h
        rw [bkf_len, dn_len] at this
        cases this
      · exact ⟨q, x, by rw [e, List.concat_eq_append]⟩
    rw [bkf_snoc] at h
    obtain ⟨h1, h2⟩ := List.append_inj h (by rw [bkf_len, dn_len]; have := congrArg List.length h; rw [List.length_append, bkf_len, dn_len] at this; simpa using this)
    have hx : x.1.1 = s.length - 1 - k := by simpa using h2
    rw [hadF_snoc, hadF_dn k q (by omega) h1]
    have hget := x.2
    rw [hx] at hget
    obtain ⟨hlt, e⟩ := List.getElem?_eq_some_iff.1 hget
    rw [← e, show s.length - (k + 1) = s.length - 1 - k by omega, List.drop_eq_getElem_cons hlt, show s.length - 1 - k + 1 = s.length - k by omega]
theorem hadF_all {s : List FV} {l : List (Bf s)} (h : bkf l = dn s.length s.length) : hadF l = s := by
  rw [hadF_dn s.length l (Nat.le_refl _) h, Nat.sub_self, List.drop_zero]
/-- the flights s lie in a row below n₀ -/
def InF (n₀ : Nat) (W : World) (A : Option Addr) (s : List FV) : Prop := s = [] ∨ ∃ b o, A = some ⟨b, o, none⟩ ∧ b < n₀ ∧ b < W.heap.size ∧ ∀ (k : Nat) (x : FV), s[k]? = some x → ∀ j u, (encF6 x)[j]? = some u → W.cell? ⟨b, o + k * 6 + j, none⟩ = some u
theorem InF.more {n₀ : Nat} {W W' : World} {A : Option Addr} {s : List FV} (h : InF n₀ W A s) (hb : Below n₀ W W') : InF n₀ W' A s := by
  rcases h with h | ⟨b, o, e, h1, h2, h3⟩
  · exact .inl h
  · exact .inr ⟨b, o, e, h1, Nat.lt_of_lt_of_le h2 hb.size, fun k x hk j u hu => (hb.cell (p := ⟨b, o + k * 6 + j, none⟩) h1).trans (h3 k x hk j u hu)⟩
theorem inF_of {W : World} {A : Option Addr} {c : Nat} {s : List FV} (h : RowL 6 encF6 W (.slice A s.length c) s) : InF W.heap.size W A s := by
  cases s with
  | nil => exact .inl rfl
  | cons y r =>
    obtain ⟨b, o, e, hlt, _⟩ := RowL.at6 h (k := 0) rfl
    subst e
    refine .inr ⟨b, o, rfl, hlt, hlt, fun k x hk j u hu => ?_⟩
    obtain ⟨b', o', e, _, hc⟩ := RowL.at6 h hk
    cases e
    exact hc j u hu

set_option maxRecDepth 100000 in
set_option maxHeartbeats 2000000 in
theorem back1_in (l Bn n₀ : Nat) (A : Option Addr) (c : Nat) (s : List FV) (J : List (Bf s) → World → Prop) (hs : s.length ≤ 1000)
    (hY : ∀ pre x W, J pre W → pre.length < s.length → YieldAt Fence.wide 8 Tryz.prog l (encBf x) W fun e W' => e = .returned (.bool true) ∧ J (pre ++ [x]) W' ∧ KpB n₀ Bn W W')
    (W : World) (hBn : Boxed W Bn flsT (.slice A s.length c)) (hr : InF n₀ W A s) (h0 : J [] W) :
    CallsIn Fence.wide 9 Tryz.prog 60 #[.func (.yield l) #[] #[], .pointer (some ⟨Bn, 0, none⟩)] W fun e W' => (∃ v, e = .returned v) ∧
      ∃ ys : List (Bf s), bkf ys = dn s.length s.length ∧ J ys W' := by
  refine callsIn_of_wp Tryz.func60 rfl trivial ?_ rfl
  simp only [Tryz.ntmps60, List.size_toArray, List.length_cons, List.length_nil, Nat.reduceAdd, Nat.reduceSub, Array.replicate_succ, Array.replicate_zero, List.push_toArray, List.append_toArray, List.nil_append, List.cons_append]
  have HBN := Lib.hid hBn
  have HR := Lib.hid hr
  have HY := Lib.hid hY
  have g0 := hBn.cell
  clear hY hBn hr
  obtain ⟨n, hn⟩ : ∃ n, n = s.length := ⟨_, rfl⟩
  have HN := Lib.hid hn
  rw [← hn] at HBN hs g0 ⊢
  clear hn
  gi_wp2
  gi_loopw [3] (fun i wr => ∃ (m : Nat) (pre : List (Bf s)), m ≤ n ∧ i = .int .i64 ((m : Int) - 1) ∧ Hid (bkf pre = dn n (n - m)) ∧ J pre wr ∧ Boxed wr Bn flsT (.slice A n c) ∧ Hid (InF n₀ wr A s)) (fun i _ => (intOf i + 1).toNat)
  case atStart => exact ⟨n, [], Nat.le_refl _, by go_num, Lib.hid (by rw [Nat.sub_self]; rfl), h0, HBN.out, HR⟩
  case round =>
    clear g0 h0
    obtain ⟨m, pre, hm, hi, HP, hJ, hB, HI⟩ := hrel
    cases m with
    | zero =>
      subst hi
      gi_wp2
      go_end0
      exact ⟨⟨_, rfl⟩, pre, HP.out, hJ⟩
    | succ q =>
      rw [show ((q + 1 : Nat) : Int) - 1 = (q : Int) by omega] at hi
      subst hi
      have g0 := hB.cell
      obtain ⟨x, hx⟩ : ∃ x, s[q]? = some x := ⟨_, List.getElem?_eq_getElem (by have := HN.out; omega)⟩
      have hne : ¬ s = [] := by intro e; rw [e] at hx; cases hx
      obtain ⟨b, o, e1, hb0, hb1, hc⟩ := HI.out.resolve_left hne
      subst e1
      have z0 := hc q x hx 0 _ rfl
      have z1 := hc q x hx 1 _ rfl
      have z2 := hc q x hx 2 _ rfl
      have z3 := hc q x hx 3 _ rfl
      have z4 := hc q x hx 4 _ rfl
      have z5 := hc q x hx 5 _ rfl
      rw [Nat.add_zero] at z0
      have i0 : (0 : Int) ≤ (q : Int) := by omega
      have i1 : (q : Int) < (n : Int) := by omega
      have hpl : pre.length < s.length := by
        have := congrArg List.length HP.out
        rw [bkf_len, dn_len] at this
        have := HN.out
        omega
      obtain ⟨fn, tmps, assign, body, hy, hR⟩ := HY.out pre ⟨(q, x), hx⟩ wr hJ hpl
      dsimp only [encBf] at hy
      have HB3 : Hid (∀ W3, KpB n₀ Bn wr W3 → Boxed W3 Bn flsT (.slice (some ⟨b, o, none⟩) n c) ∧ InF n₀ W3 (some ⟨b, o, none⟩) s) := Lib.hid (fun W3 h => ⟨h.2.trans hB, HI.out.more h.1⟩)
      have HQ : Hid (bkf (pre ++ [(⟨(q, x), hx⟩ : Bf s)]) = dn n (n - q)) := Lib.hid (by
        rw [bkf_snoc, HP.out, show n - q = n - (q + 1) + 1 by omega, dn, show n - 1 - (n - (q + 1)) = q by omega])
      clear hc hne
      gi_wp2
      refine hR.mono ?_
      rintro e W3 ⟨rfl, hJ3, hk3⟩
      obtain ⟨hB4, hI4⟩ := HB3.out W3 hk3
      gi_wp2
      go_roundw
      case rel => exact ⟨q, pre ++ [⟨(q, x), hx⟩], by omega, by go_num, HQ, hJ3, hB4, Lib.hid hI4⟩
      case measure => simp [intOf]
/-- the contract of the iterator's value -/
theorem back_seq (Bn n₀ : Nat) (A : Option Addr) (c : Nat) (s : List FV) (hs : s.length ≤ 1000) (w : World) (hn : n₀ ≤ w.heap.size) (hBn : Boxed w Bn flsT (.slice A s.length c)) (hr : InF n₀ w A s) :
    SeqBk Fence.wide 9 Tryz.prog 60 #[.pointer (some ⟨Bn, 0, none⟩)] (encBf (s := s)) (KpB n₀ Bn) (fun ys => bkf ys = dn s.length s.length) s.length w := fun l J W hW hY h0 =>
  back1_in l Bn n₀ A c s J hs hY W (boxed_more hBn hW) (hr.more (hW.mono hn)) h0
set_option maxHeartbeats 1000000 in
theorem back_any (A : Option Addr) (n c : Nat) (w : World) : CallsIn Fence.wide 9 Tryz.prog 30 #[.slice A n c] w fun e w' => e = .returned (.func (.func 60) #[] #[.pointer (some ⟨w.heap.size, 0, none⟩)]) ∧ w' = w.alloc (.cells #[.slice A n c] flsT) := by
  refine callsIn_of_wp Tryz.func30 rfl trivial ?_ rfl
  simp only [Tryz.ntmps30, List.size_toArray, List.length_cons, List.length_nil, Nat.reduceAdd, Nat.reduceSub, Array.replicate_succ, Array.replicate_zero, List.push_toArray, List.append_toArray, List.nil_append, List.cons_append]
  gi_wp2
  go_ret
  exact ⟨rfl, rfl⟩

/-! ### what abides -/
theorem TV.kept {w w' : World} {b lo n : Nat} {g : ByteArray × Int → Option Value} {T : ByteArray × Int → Int → Option Value} {row : Option Nat} (h : TV w b lo n g T) (hg : w.grownBy w' row) (hr : ∀ r, row = some r → ∃ o : Obj, w.heap[r]? = some o ∧ bookB o = true) : TV w' b lo n g T := by
  have hk : ∀ k, k < w.heap.size → (∃ es cl, w.heap[k]? = some (.map es cl)) → w'.heap[k]? = w.heap[k]? := fun k hk ⟨es, cl, hm⟩ => hg.block k hk (fun e => by
    obtain ⟨o, h1, h2⟩ := hr k e.symm
    rw [hm] at h1
    cases h1
    cases h2)
  refine ⟨h.map.same (hk _ h.map.lt (h.map.isX h.hlo).2), h.hlo, fun c v hc => ?_, h.out, h.inj⟩
  obtain ⟨b', m, e, h1, h2, h3, h4⟩ := h.inn c v hc
  exact ⟨b', m, e, h1, h2, h3, h4.same (hk _ h4.lt (h4.isX h1).2)⟩
theorem book_cells {w w' : World} {row : Option Nat} (hg : w.grownBy w' row) (hr : ∀ r, row = some r → ∃ o : Obj, w.heap[r]? = some o ∧ bookB o = true) {k : Nat} {o : Obj} (hk : w.heap[k]? = some o) (ho : bookB o = false) : w'.heap[k]? = some o :=
  (hg.block k (Array.getElem?_eq_some_iff.1 hk).1 (fun e => by
    obtain ⟨o', h1, h2⟩ := hr k e.symm
    rw [hk] at h1
    cases h1
    rw [ho] at h2
    cases h2)).trans hk
theorem keepsBk_but {B lo : Nat} {w w' : World} (h : But w w' (MapX w lo)) : KeepsBk B w w' := ⟨h.size, fun k o _ hk ho => (h.block k (Array.getElem?_eq_some_iff.1 hk).1 (fun hx => by
    obtain ⟨_, es, cl, hm⟩ := hx
    rw [hk] at hm
    cases hm
    cases ho)).trans hk⟩
theorem but_obj {lo : Nat} {w w' : World} (h : But w w' (MapX w lo)) {k : Nat} {cs : Array Value} {t : TypeId} {s : Nat × Nat} (hk : w.heap[k]? = some (.cells cs t s)) : w'.heap[k]? = some (.cells cs t s) := (h.block k (Array.getElem?_eq_some_iff.1 hk).1 (fun hx => by
    obtain ⟨_, es, cl, hm⟩ := hx
    rw [hk] at hm
    cases hm)).trans hk
end Go.Proofs.YtdpcjafkahhecaaGreatDoor

/- The violations of shares as plain data. -/
namespace Go.Proofs.YtdpcjafkahhecaaGreatDoor
open Go.RowKit Go.Shelf Go.Maps
set_option linter.unusedSimpArgs false
set_option linter.unusedVariables false

def shW : ByteArray := ⟨#[115, 104, 97, 114, 101, 32]⟩
/-- what earlier shares sell -/
def soS (L : List Sh) (c : ByteArray × Int) (d : Int) : Bool := L.any fun y => decide (c = (y.car, y.num)) && decide (d ∈ Per.daysQ (y.pf, y.pt, y.pd))
theorem boT_snoc (L : List Sh) (s : Sh) : boT (soS (L ++ [s])) = enP (boT (soS L)) (s.car, s.num) (Per.daysQ (s.pf, s.pt, s.pd)) (.bool true) := by
  funext c d
  unfold boT enP soS
  rw [List.any_append]
  simp only [List.any_cons, List.any_nil, Bool.or_false]
  by_cases h : c = (s.car, s.num) ∧ d ∈ Per.daysQ (s.pf, s.pt, s.pd)
  · rw [if_pos h, if_pos (by simp [h.1, h.2])]
  · rw [if_neg h]
    have e : (decide (c = (s.car, s.num)) && decide (d ∈ Per.daysQ (s.pf, s.pt, s.pd))) = false := by
      rw [Bool.and_eq_false_iff]
      by_cases h1 : c = (s.car, s.num)
      · exact .inr (by simpa using fun h2 => h ⟨h1, h2⟩)
      · exact .inl (by simpa using h1)
    rw [e, Bool.or_false]
theorem boT_nil : boT (soS []) = fun _ _ => none := by funext c d; unfold boT soS; simp
theorem soS_next (sh : List Sh) {k : Nat} {s : Sh} (h : sh[k]? = some s) : boT (soS (sh.take (k + 1))) = enP (boT (soS (sh.take k))) (s.car, s.num) (Per.daysQ (s.pf, s.pt, s.pd)) (.bool true) := by
  obtain ⟨hk, rfl⟩ := List.getElem?_eq_some_iff.1 h
  rw [← List.take_append_getElem hk, boT_snoc]
/-- the violations of a share behind others -/
def shEs (fs : List FV) (before : List Sh) (s : Sh) : List Int :=
  [wh (!carB s.car || !carB s.op) 5, wh (!num9B s.num || !num9B s.am) 2, wh (s.car.toList == s.op.toList) 8, Per.errQ (s.pf, s.pt, s.pd), wh ((Per.daysQ (s.pf, s.pt, s.pd)).any (nonD fs s)) 7, wh ((Per.daysQ (s.pf, s.pt, s.pd)).any (offD fs s)) 15, wh ((Per.daysQ (s.pf, s.pt, s.pd)).any (ownB fs (soS before) s)) 6]
def shrF (fs : List FV) (sh : List Sh) (k : Nat) : List Flt := (List.range k).flatMap fun i => match sh[i]? with
  | some s => pick (shW ++ decA i) (shEs fs (sh.take i) s)
  | none => []
theorem shrF_succ (fs : List FV) (sh : List Sh) (k : Nat) (s : Sh) (h : sh[k]? = some s) : shrF fs sh (k + 1) = shrF fs sh k ++ pick (shW ++ decA k) (shEs fs (sh.take k) s) := by
  simp [shrF, List.range_succ, h]
theorem shrF_le (fs : List FV) (sh : List Sh) : ∀ k, (shrF fs sh k).length ≤ 7 * k
  | 0 => by simp [shrF]
  | k + 1 => by
    have ih := shrF_le fs sh k
    have e : shrF fs sh (k + 1) = shrF fs sh k ++ (match sh[k]? with | some s => pick (shW ++ decA k) (shEs fs (sh.take k) s) | none => []) := by simp [shrF, List.range_succ]
    rw [e, List.length_append]
    cases sh[k]? with
    | none => simp; omega
    | some s =>
      have := pick_le (shW ++ decA k) (shEs fs (sh.take k) s)
      simp only [shEs, List.length_cons, List.length_nil] at this ⊢
      omega
end Go.Proofs.YtdpcjafkahhecaaGreatDoor
