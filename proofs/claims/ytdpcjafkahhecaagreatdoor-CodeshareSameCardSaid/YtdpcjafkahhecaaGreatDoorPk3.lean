/- Words and walks that the laws below ask: FltP, FltA, PlaC, PlaI, PlaJ0, PlaJ1, PlaJ2, PlaJ3, PlaD, FliA, Shelf, DecE, FrameF, PerP. -/
import Derived.Deep.AppendLies
import Derived.Deep.RegionLaw
import Derived.Shelf.Abstract
import Derived.Deep.LoopGhost
import Derived.Shelf.Strconv.Itoa0
import Derived.Shelf.Strconv.Itoa1
import Derived.Shelf.LaysM
import Derived.Shelf.Strconv.Itoa2
import Derived.Shelf.Strconv.Itoa3
import Derived.Test.YtdpcjafkahhecaaGreatDoorProg
import Derived.Test.YtdpcjafkahhecaaGreatDoorRows
import Derived.WalkKit
import Derived.WalkSpells
import Derived.WalkLawsBesides
import Derived.Lib.Hide
import Derived.Lib.OthersKept
import Derived.WalkSmall
import Derived.Lib.LaidTab
import Derived.Lib.AppendIntMem
import Derived.Test.YtdpcjafkahhecaaGreatDoorCards
import Derived.Test.YtdpcjafkahhecaaGreatDoorTie
import Derived.ProofKit
import Derived.OpenShut
import Derived.ShutString
import Derived.Carry
import Derived.SizedLaws
import Derived.SliceStrings
import Derived.Stop.LaidErr
import Derived.Deep.DeepHandedRow
import Derived.Deep.DeepWitnessRowRef
import Derived.Deep.DeepLaidRun
import Derived.Lib.SmallJoins
import Derived.Deep.SlicePairs
import Derived.ChangeSlices
import Derived.Test.YtdpcjafkahhecaaGreatDoorPk1
import Derived.Test.YtdpcjafkahhecaaGreatDoorPk2
/- Plain facts on lists of violations, and on those of places. -/
namespace Go.Proofs.YtdpcjafkahhecaaGreatDoor
open Go.RowKit Go.Shelf
set_option linter.unusedSimpArgs false
set_option linter.unusedVariables false

/-- a violation: its error, and where it is -/
abbrev Flt := Int × ByteArray
/-- the errors that are none are left out -/
def okE (es : List Int) : List Int := es.filter fun e => decide (e ≠ 0)
def pick (s : ByteArray) (es : List Int) : List Flt := (okE es).map fun e => (e, s)
theorem pick_app (s : ByteArray) (a b : List Int) : pick s (a ++ b) = pick s a ++ pick s b := by simp [pick, okE]
theorem pick_zero (s : ByteArray) : pick s [0] = [] := rfl
theorem pick_one (s : ByteArray) (e : Int) (h : e ≠ 0) : pick s [e] = [(e, s)] := by simp [pick, okE, h]
theorem pick_le (s : ByteArray) (es : List Int) : (pick s es).length ≤ es.length := by
  unfold pick okE
  rw [List.length_map]
  exact List.length_filter_le _ _

/-! ### the violations of places -/
/-- 'airport ' ¦ 'distance ' with an index behind it -/
def airW : ByteArray := ⟨#[97, 105, 114, 112, 111, 114, 116, 32]⟩
def dstW : ByteArray := ⟨#[100, 105, 115, 116, 97, 110, 99, 101, 32]⟩
def decA (i : Nat) : ByteArray := ⟨(Lib.itoa (i : Int)).toArray⟩
def movB (L : List Air) (a : Air) : Bool := L.any fun b => decide (b.city = a.city) && !decide (b.land = a.land)
def airE (L : List Air) (a : Air) : List Int :=
  [if codesB a then 0 else 5, if L.any (fun b => decide (b.code = a.code)) then 6 else 0, if movB L a then 8 else 0, errZ a.off a.shs]
/-- the violations of the first k airports -/
def airF (l : List Air) (k : Nat) : List Flt := (List.range k).flatMap fun i => match l[i]? with
  | some a => pick (airW ++ decA i) (airE (l.take i) a)
  | none => []
theorem airF_succ (l : List Air) (k : Nat) (a : Air) (h : l[k]? = some a) : airF l (k + 1) = airF l k ++ pick (airW ++ decA k) (airE (l.take k) a) := by
  simp [airF, List.range_succ, h]
theorem airF_le (l : List Air) : ∀ k, (airF l k).length ≤ 4 * k
  | 0 => by simp [airF]
  | k + 1 => by
    have ih := airF_le l k
    have e : airF l (k + 1) = airF l k ++ (match l[k]? with | some a => pick (airW ++ decA k) (airE (l.take k) a) | none => []) := by simp [airF, List.range_succ]
    rw [e, List.length_append]
    cases l[k]? with
    | none => simp; omega
    | some a =>
      have := pick_le (airW ++ decA k) (airE (l.take k) a)
      simp only [airE, List.length_cons, List.length_nil] at this ⊢
      omega
def twB (L : List Dst) (d : Dst) : Bool := L.any fun x => (decide (x.f = d.f) && decide (x.t = d.t)) || (decide (x.f = d.t) && decide (x.t = d.f))
def dstE (l : List Air) (L : List Dst) (d : Dst) : List Int :=
  [if l.any (fun b => decide (b.city = d.f)) && l.any (fun b => decide (b.city = d.t)) then 0 else 14, if twB L d then 6 else 0, if useB d && !decide (d.f = d.t) then 0 else 2]
def dstF (l : List Air) (ds : List Dst) (k : Nat) : List Flt := (List.range k).flatMap fun i => match ds[i]? with
  | some d => pick (dstW ++ decA i) (dstE l (ds.take i) d)
  | none => []
theorem dstF_zero (l : List Air) (ds : List Dst) : dstF l ds 0 = [] := rfl
theorem dstF_succ (l : List Air) (ds : List Dst) (k : Nat) (d : Dst) (h : ds[k]? = some d) : dstF l ds (k + 1) = dstF l ds k ++ pick (dstW ++ decA k) (dstE l (ds.take k) d) := by
  simp [dstF, List.range_succ, h]
theorem dstF_le (l : List Air) (ds : List Dst) : ∀ k, (dstF l ds k).length ≤ 3 * k
  | 0 => by simp [dstF]
  | k + 1 => by
    have ih := dstF_le l ds k
    have e : dstF l ds (k + 1) = dstF l ds k ++ (match ds[k]? with | some d => pick (dstW ++ decA k) (dstE l (ds.take k) d) | none => []) := by simp [dstF, List.range_succ]
    rw [e, List.length_append]
    cases ds[k]? with
    | none => simp; omega
    | some d =>
      have := pick_le (dstW ++ decA k) (dstE l (ds.take k) d)
      simp only [dstE, List.length_cons, List.length_nil] at this ⊢
      omega
/-- all violations of places -/
def chkP (p : PV) : List Flt := airF p.l p.l.length ++ dstF p.l p.ds p.ds.length

theorem toList_ne {a b : ByteArray} (h : a ≠ b) : a.toList ≠ b.toList := fun e => h ((eqS_iff a b).1 (by unfold eqS; rw [e]; simp))
variable {P : Program}
end Go.Proofs.YtdpcjafkahhecaaGreatDoor

/- Walks of fault.When, fault.Add and of the law's SameFaults. -/
namespace Go.Proofs.YtdpcjafkahhecaaGreatDoor
open Go.RowKit Go.Shelf
set_option linter.unusedSimpArgs false
set_option linter.unusedVariables false

abbrev fltT : TypeId := 62
def encF (x : Flt) : List Value := [.int .i64 x.1, .string x.2]
theorem rtF : RT Tryz.prog 31 fltT 2 encF where
  ht := Tryz.underlying31
  info := ⟨.agg #[.int .i64 0, .string noB], 24, by kernel_rfl, rfl, by omega⟩
  len x := rfl
  one x u hu := by simp [encF] at hu; rcases hu with rfl | rfl <;> rfl
  pos := by omega
abbrev FOwn (B : Nat) (w : World) (v : Value) (l : List Flt) : Prop := ROwn fltT 2 encF B w v l
abbrev FltL (w : World) (v : Value) (l : List Flt) : Prop := RowL 2 encF w v l

theorem fwhen_any (b : Bool) (e : Int) (w : World) : Calls Tryz.prog 35 #[.bool b, .int .i64 e] w fun r w' => r = .returned (.int .i64 (if b then e else 0)) ∧ w = w' := by
  cases b <;>
  · go_enter Tryz.func35, Tryz.ntmps35
    go_wp2
    go_ret
    exact ⟨rfl, rfl⟩

theorem pick_take_succ (s : ByteArray) (es : List Int) (k : Nat) (h : k < es.length) : pick s (es.take (k + 1)) = pick s (es.take k) ++ pick s [es[k]] := by
  rw [← pick_app, ← List.take_append_getElem h]

set_option maxRecDepth 100000 in
set_option maxHeartbeats 4000000 in
theorem fadd_any (B : Nat) (v : Value) (l : List Flt) (s : ByteArray) (b n c : Nat) (es : List Int) (w : World) (hF : FOwn B w v l) (hn : es.length = n) (hn2 : n ≤ 10) (hz : ∀ k (h : k < es.length), w.cell? ⟨b, k, none⟩ = some (.int .i64 es[k])) (hne : v.ownBlock ≠ some b) (hl : l.length ≤ 1000000) :
    Calls Tryz.prog 33 #[v, .string s, .slice (some ⟨b, 0, none⟩) n c] w fun e w' => ∃ v', e = .returned v' ∧ FOwn B w' v' (l ++ pick s es) ∧ Chg w w' v v' := by
  have HZ := Lib.hid hz
  have HF := Lib.hid hF
  have HNE := Lib.hid hne
  clear hz hF hne
  go_enter Tryz.func33, Tryz.ntmps33
  go_wp2
  go_loopw [0, 11] (fun s0 vi wr => ∃ (k : Nat), k ≤ n ∧ vi = .int .i64 k ∧ Hid (FOwn B wr s0 (l ++ pick s (es.take k)) ∧ Chg w wr v s0)) (fun _ vi _ => n - (intOf vi).toNat)
  case atStart => exact ⟨0, Nat.zero_le _, rfl, Lib.hid ⟨by simpa [pick, okE] using HF.out, Chg.refl _ _⟩⟩
  case round =>
    obtain ⟨k, hk, rfl, HH⟩ := hrel
    by_cases hlt : k < n
    · have i1 : (k : Int) < (n : Int) := by omega
      have hke : k < es.length := by omega
      have z0 := HH.out.2.cell (HZ.out k hke) HNE.out
      have HP := Lib.hid (pick_take_succ s es k hke)
      by_cases he : es[k] = 0
      · rw [he] at z0
        have HP2 : Hid (pick s (es.take (k + 1)) = pick s (es.take k)) := Lib.hid (by rw [HP.out, he, pick_zero, List.append_nil])
        clear HP he
        go_wp2
        go_roundw
        case rel => exact ⟨k + 1, by omega, by go_num, Lib.hid (by rw [HP2.out]; exact HH.out)⟩
        case measure => simp [intOf]; omega
      · have hb : (es[k] != 0) = true := by simpa using he
        have HP2 : Hid (pick s (es.take (k + 1)) = pick s (es.take k) ++ [(es[k], s)]) := Lib.hid (by rw [HP.out, pick_one s _ he])
        generalize es[k] = x at *
        have hlen : (l ++ pick s (es.take k)).length ≤ 100000000 := by
          have := pick_le s (es.take k)
          have := List.length_take_le k es
          rw [List.length_append]
          omega
        clear HP he hke
        go_wp2_with (at_builtin; refine wpList_rapp rtF rfl _ _ rfl HH.out.1 rfl (bel_alloc _ _) _ (x, s) _ rfl (cs := #[.int .i64 x, .string s]) rfl (heap_alloc_new _ _) hlen ?_; intro v' w' hO hC)
        go_roundw
        case rel => exact ⟨k + 1, by omega, by go_num, Lib.hid ⟨by rw [HP2.out, ← List.append_assoc]; exact hO, HH.out.2.trans hC⟩⟩
        case measure => simp [intOf]; omega
    · have hkn : k = n := by omega
      have HE : Hid (es.take k = es) := Lib.hid (List.take_of_length_le (by omega))
      go_wp2
      go_ret
      exact ⟨_, rfl, by have := HH.out; rw [HE.out] at this; exact this⟩

end Go.Proofs.YtdpcjafkahhecaaGreatDoor

/- Walks of Country, Clone and Find. -/
namespace Go.Proofs.YtdpcjafkahhecaaGreatDoor
open Go.RowKit Go.Shelf
set_option linter.unusedSimpArgs false
set_option linter.unusedVariables false

theorem info_shift : (Tryz.prog.info? shiftT).map (fun i => (i.zero, i.size, i.bytes)) = some (some (.agg #[.int .i64 0, .int .i64 0]), 2, 16) := by kernel_rfl
def cellsH (l : Shs) : List Value := l.flatMap fun x => [.int .i64 x.1, .int .i64 x.2]
theorem cellsH_len (l : Shs) : (cellsH l).length = l.length * 2 := by
  induction l with
  | nil => rfl
  | cons x r ih => simp only [cellsH, List.flatMap_cons, List.length_append, List.length_cons, List.length_nil] at ih ⊢; omega
theorem cellsH_at : ∀ (l : Shs) (i : Nat) (h : i < l.length), (cellsH l)[i * 2]? = some (.int .i64 (shA l i)) ∧ (cellsH l)[i * 2 + 1]? = some (.int .i64 (shF l i))
  | [], i, h => by simp at h
  | x :: r, 0, h => by simp [cellsH, shA, shF]
  | x :: r, i + 1, h => by
    have ih := cellsH_at r i (by simpa using h)
    have e : cellsH (x :: r) = .int .i64 x.1 :: .int .i64 x.2 :: cellsH r := by simp [cellsH]
    have e2 : shA (x :: r) (i + 1) = shA r i := by simp [shA]
    have e3 : shF (x :: r) (i + 1) = shF r i := by simp [shF]
    rw [e, e2, e3, show (i + 1) * 2 = i * 2 + 1 + 1 by omega, show i * 2 + 1 + 1 + 1 = (i * 2 + 1) + 1 + 1 by omega]
    simp only [List.getElem?_cons_succ]
    exact ih
theorem ShL.of_own {B : Nat} {w : World} {g cap : Nat} {l : Shs} (h : w.ownsRow B shiftT 2 (.slice (some ⟨g, 0, none⟩) l.length cap) l.length (cellsH l)) (hg : g < w.heap.size) : ShL w (some ⟨g, 0, none⟩) l := by
  refine .inr ⟨g, 0, rfl, hg, fun i hi => ?_⟩
  have hc := cellsH_at l i hi
  have hadd : ∀ j, (⟨g, 0, none⟩ : Addr).add j = ⟨g, 0 + j, none⟩ := fun j => by unfold Addr.add; split <;> simp_all
  have a0 := h.cells (g := g) rfl _ _ hc.1
  have a1 := h.cells (g := g) rfl _ _ hc.2
  rw [hadd] at a0 a1
  exact ⟨a0, by rw [Nat.add_assoc]; exact a1⟩

theorem nil_yes (n c : Nat) (w : World) : (binOp .eql 98 (.slice none n c) (.slice none 0 0)).run Tryz.prog w = .ok (.bool true) w := by kernel_rfl
theorem nil_no (a : Addr) (n c : Nat) (w : World) : (binOp .eql 98 (.slice (some a) n c) (.slice none 0 0)).run Tryz.prog w = .ok (.bool false) w := by kernel_rfl
theorem ShL.news {w : World} {ad : Addr} {l : Shs} (h : ShL w (some ad) l) : ∀ j u, (cellsH l)[j]? = some u → w.cell? (ad.add j) = some u := by
  intro j u hu
  have hj : j < l.length * 2 := by rw [← cellsH_len]; exact (List.getElem?_eq_some_iff.1 hu).1
  rcases h with h | ⟨b, o, e, _, hc⟩
  · rw [h] at hj; simp at hj
  · cases e
    have hadd : ∀ j, (⟨b, o, none⟩ : Addr).add j = ⟨b, o + j, none⟩ := fun j => by unfold Addr.add; split <;> simp_all
    rw [hadd]
    obtain ⟨m, hm⟩ : ∃ m, j = m * 2 ∨ j = m * 2 + 1 := ⟨j / 2, by omega⟩
    rcases hm with rfl | rfl
    · rw [(cellsH_at l m (by omega)).1] at hu
      cases hu
      exact (hc m (by omega)).1
    · rw [(cellsH_at l m (by omega)).2] at hu
      cases hu
      have := (hc m (by omega)).2
      rw [Nat.add_assoc] at this
      exact this
theorem cellsH_one (l : Shs) : ∀ u ∈ cellsH l, u.oneCell' = true := by
  intro u hu
  simp only [cellsH, List.mem_flatMap] at hu
  obtain ⟨x, _, hx⟩ := hu
  simp at hx
  rcases hx with rfl | rfl <;> rfl

set_option maxRecDepth 100000 in
set_option maxHeartbeats 2000000 in
theorem clone_any (A : Option Addr) (c : Nat) (l : Shs) (w : World) (hl : l.length ≤ 300) (hL : ShL w A l) :
    Calls Tryz.prog 136 #[.slice A l.length c] w fun e w' => ∃ A' c', e = .returned (.slice A' l.length c') ∧ ShL w' A' l ∧ Below w.heap.size w w' ∧ (A' = none ∨ ∃ g, A' = some ⟨g, 0, none⟩ ∧ w.heap.size ≤ g) := by
  obtain ⟨i, hi, hz, hz1, hz2⟩ := info_parts info_shift
  cases A with
  | none =>
    have h0 : l = [] := by
      rcases hL with h | ⟨b, o, h, _⟩
      · exact h
      · cases h
    subst h0
    have n1 := nil_yes 0 c w
    go_enter Tryz.func136, Tryz.ntmps136
    go_wp2
    go_ret
    exact ⟨none, 0, rfl, .inl rfl, Below.refl _ _, .inl rfl⟩
  | some ad =>
    have n1 := nil_no ad l.length c w
    have hb0 := bel_alloc w (.cells #[] shiftT)
    by_cases h0 : l = []
    · subst h0
      have n1 := nil_no ad 0 c w
      go_enter Tryz.func136, Tryz.ntmps136
      go_wp2
      go_ret
      exact ⟨some ⟨w.heap.size, 0, none⟩, 0, rfl, .inl rfl, hb0, .inr ⟨_, rfl, Nat.le_refl _⟩⟩
    · have hlp : 0 < l.length := List.length_pos_iff.2 h0
      have HN := Lib.hid ((hL.more hb0).news)
      have HC := Lib.hid (cellsH_len l)
      have HO := Lib.hid (World.ownsRow_made (base := w.heap.size) (e := shiftT) (size := 2) w #[] 0 (Nat.le_refl _) (by unfold maxLen; omega) rfl)
      have hsz : w.heap.size ≤ (w.alloc (.cells #[] shiftT)).heap.size := hb0.size
      clear h0 hL
      go_enter Tryz.func136, Tryz.ntmps136
      go_wp2_with (refine wpList_append_lies _ rfl _ _ 98 rfl w.heap.size shiftT i (.agg #[.int .i64 0, .int .i64 0]) 2 16 Tryz.underlying98 hi hz hz1 hz2 rfl (by omega) _ 0 [] rfl HO.out ad l.length c (cellsH l) rfl HC.out HN.out (cellsH_one l) hlp (by unfold maxLen; omega) (by omega) hsz _ rfl ?_; intro g cap w' hown hgrow _ hgl)
      go_ret
      have e : 0 + l.length = l.length := Nat.zero_add _
      rw [e, List.nil_append] at hown
      exact ⟨some ⟨g, 0, none⟩, cap, by simp, ShL.of_own hown hgl, hb0.grown hgrow hb0.size (fun k hk => by cases hk; exact Nat.le_refl _), .inr ⟨g, rfl, (hown.lt g rfl).1⟩⟩

end Go.Proofs.YtdpcjafkahhecaaGreatDoor

/- Walks of the queue's Pop and Push. -/
namespace Go.Proofs.YtdpcjafkahhecaaGreatDoor
open Go.RowKit Go.Shelf
set_option linter.unusedSimpArgs false
set_option linter.unusedVariables false

end Go.Proofs.YtdpcjafkahhecaaGreatDoor

/- Walks of container/heap over the queue. -/
namespace Go.Proofs.YtdpcjafkahhecaaGreatDoor
open Go.RowKit Go.Shelf
set_option linter.unusedSimpArgs false
set_option linter.unusedVariables false

end Go.Proofs.YtdpcjafkahhecaaGreatDoor

/- Walks of container/heap: up. -/
namespace Go.Proofs.YtdpcjafkahhecaaGreatDoor
open Go.RowKit Go.Shelf
set_option linter.unusedSimpArgs false
set_option linter.unusedVariables false

end Go.Proofs.YtdpcjafkahhecaaGreatDoor

/- Walks of container/heap: down, Push, Pop. -/
namespace Go.Proofs.YtdpcjafkahhecaaGreatDoor
open Go.RowKit Go.Shelf
set_option linter.unusedSimpArgs false
set_option linter.unusedVariables false

end Go.Proofs.YtdpcjafkahhecaaGreatDoor

/- Walks of container/heap: Push, Pop. -/
namespace Go.Proofs.YtdpcjafkahhecaaGreatDoor
open Go.RowKit Go.Shelf
set_option linter.unusedSimpArgs false
set_option linter.unusedVariables false

theorem But.weak {w w' : World} {X Y : Nat → Prop} (h : But w w' X) (hx : ∀ k, X k → Y k) : But w w' Y := ⟨h.os, h.tape, h.output, h.size, fun k hk hn => h.block k hk fun hy => hn (hx k hy)⟩
end Go.Proofs.YtdpcjafkahhecaaGreatDoor

/- Walk of Find. -/
namespace Go.Proofs.YtdpcjafkahhecaaGreatDoor
open Go.RowKit Go.Shelf
set_option linter.unusedSimpArgs false
set_option linter.unusedVariables false

theorem frozen_more {w w' : World} {b j : Nat} (hb : Below w.heap.size w w') (hlt : b < w.heap.size) (h : w.frozen? ⟨b, j, none⟩ = false) : w'.frozen? ⟨b, j, none⟩ = false := (World.frozen?_of_block (a := ⟨b, j, none⟩) (hb.block b hlt)).trans h
theorem ShL.but {w w' : World} {X : Nat → Prop} {A : Option Addr} {l : Shs} (h : ShL w A l) (hb : But w w' X) (hA : A = none ∨ ∃ g, A = some ⟨g, 0, none⟩ ∧ ¬ X g) : ShL w' A l := by
  rcases h with h | ⟨b, o, rfl, hlt, hc⟩
  · exact .inl h
  · have hx : ¬ X b := by
      rcases hA with h | ⟨g, e, hx⟩
      · cases h
      · cases e; exact hx
    exact .inr ⟨b, o, rfl, Nat.lt_of_lt_of_le hlt hb.size, fun i hi => ⟨(World.cell?_of_block (a := ⟨b, o + i * 2, none⟩) (hb.block b hlt hx)).trans (hc i hi).1, (World.cell?_of_block (a := ⟨b, o + i * 2 + 1, none⟩) (hb.block b hlt hx)).trans (hc i hi).2⟩⟩

/-- five stores into a block of an airport -/
def S5 (w : World) (N : Nat) (v0 v1 v2 v3 v4 : Value) : World := ((((w.setCell ⟨N, 0, none⟩ v0).setCell ⟨N, 1, none⟩ v1).setCell ⟨N, 2, none⟩ v2).setCell ⟨N, 3, none⟩ v3).setCell ⟨N, 4, none⟩ v4
theorem S5.heap {w : World} {N : Nat} {a0 a1 a2 a3 a4 : Value} (h : w.heap[N]? = some (.cells #[a0, a1, a2, a3, a4] airT (0, 0))) (v0 v1 v2 v3 v4 : Value) : (S5 w N v0 v1 v2 v3 v4).heap[N]? = some (.cells #[v0, v1, v2, v3, v4] airT (0, 0)) := by
  have e1 := heap_setCell_same w N 0 _ airT v0 h
  have e2 := heap_setCell_same _ N 1 _ airT v1 e1
  have e3 := heap_setCell_same _ N 2 _ airT v2 e2
  have e4 := heap_setCell_same _ N 3 _ airT v3 e3
  have e5 := heap_setCell_same _ N 4 _ airT v4 e4
  exact e5
theorem S5.but (w : World) (N : Nat) (v0 v1 v2 v3 v4 : Value) : But w (S5 w N v0 v1 v2 v3 v4) (fun k => k = N) :=
  ((((But.setCell w N 0 v0).trans (But.setCell _ N 1 v1) (fun _ _ h => h)).trans (But.setCell _ N 2 v2) (fun _ _ h => h)).trans (But.setCell _ N 3 v3) (fun _ _ h => h)).trans (But.setCell _ N 4 v4) (fun _ _ h => h)
end Go.Proofs.YtdpcjafkahhecaaGreatDoor

/- Words for flights; walks of flight's leaves. -/
namespace Go.Proofs.YtdpcjafkahhecaaGreatDoor
open Go.RowKit Go.Shelf
set_option linter.unusedSimpArgs false
set_option linter.unusedVariables false

/-- a leg -/
structure Lg where
  f : ByteArray
  t : ByteArray
  dep : Int
  arr : Int
  eq : ByteArray
abbrev legT : TypeId := 107
abbrev fliT : TypeId := 70
def encLg (x : Lg) : List Value := [.string x.f, .string x.t, .int .i64 x.dep, .int .i64 x.arr, .string x.eq]
abbrev encG (x : Lg) : Value := .agg #[.string x.f, .string x.t, .int .i64 x.dep, .int .i64 x.arr, .string x.eq]
abbrev LegL (w : World) (v : Value) (l : List Lg) : Prop := RowL 5 encLg w v l
/-- a flight by value -/
structure FV where
  car : ByteArray
  num : Int
  pf : Int
  pt : Int
  pd : Int
  A : Option Addr
  c : Nat
  lg : List Lg
abbrev encFl (f : FV) : Value := .agg #[.string f.car, .int .i64 f.num, .int .i64 f.pf, .int .i64 f.pt, .int .i64 f.pd, .slice f.A f.lg.length f.c]
structure OkG (x : Lg) : Prop where
  f : x.f.size ≤ maxLen
  t : x.t.size ≤ maxLen
  eq : x.eq.size ≤ maxLen
  dep : -9223372036854775808 ≤ x.dep ∧ x.dep ≤ 9223372036854775807
  arr : -9223372036854775808 ≤ x.arr ∧ x.arr ≤ 9223372036854775807
theorem LegL.get {w : World} {A : Option Addr} {n c : Nat} {l : List Lg} (h : LegL w (.slice A n c) l) {k : Nat} (hk : k < l.length) : ∃ b o x, A = some ⟨b, o, none⟩ ∧ b < w.heap.size ∧ l[k]? = some x ∧
    w.cell? ⟨b, o + k * 5, none⟩ = some (.string x.f) ∧ w.cell? ⟨b, o + k * 5 + 1, none⟩ = some (.string x.t) ∧ w.cell? ⟨b, o + k * 5 + 2, none⟩ = some (.int .i64 x.dep) ∧ w.cell? ⟨b, o + k * 5 + 3, none⟩ = some (.int .i64 x.arr) ∧ w.cell? ⟨b, o + k * 5 + 4, none⟩ = some (.string x.eq) := by
  obtain ⟨b, o, h1, h2, h3⟩ := h.at rfl hk
  exact ⟨b, o, l[k], h1, h2, List.getElem?_eq_getElem hk, h3 0 _ rfl, h3 1 _ rfl, h3 2 _ rfl, h3 3 _ rfl, h3 4 _ rfl⟩

def numB (n : Int) : Bool := decide (1 ≤ n) && decide (n ≤ 9999)
def cntB (n : Nat) : Bool := decide (1 ≤ n) && decide (n ≤ 6)
def minB (n : Int) : Bool := decide (-1440 ≤ n) && decide (n ≤ 5759)
set_option maxHeartbeats 4000000 in
set_option maxRecDepth 100000 in
theorem indexL_any (g : Nat) (cb : Array Value) (A : Option Addr) (c : Nat) (l : List Lg) (p : Lg → Bool) (w : World) (eg : ∀ args w, (callFunc g args).run Tryz.prog w = .ok (.enter g args) w) (hl : l.length ≤ 1000) (hL : LegL w (.slice A l.length c) l)
    (hf : ∀ (a : Lg) (W : World), a ∈ l → Below w.heap.size w W → Calls Tryz.prog g (#[encG a] ++ cb) W fun e w' => e = .returned (.bool (p a)) ∧ Below W.heap.size W w') :
    Calls Tryz.prog 100 #[.slice A l.length c, .func (.func g) #[] cb] w fun e w' => ∃ r : Int, e = .returned (.int .i64 r) ∧ (l.any p = true → ∃ k : Nat, r = (k : Int)) ∧ (l.any p = false → r = -1) ∧ Below w.heap.size w w' := by
  have HF := Lib.hid hf
  clear hf
  go_enter Tryz.func100, Tryz.ntmps100
  go_wp2
  go_loopw [8] (fun vi wr => ∃ k : Nat, k ≤ l.length ∧ vi = .int .i64 k ∧ Hid ((l.take k).any p = false) ∧ Below w.heap.size w wr) (fun vi _ => l.length - (intOf vi).toNat)
  case atStart => exact ⟨0, Nat.zero_le _, rfl, Lib.hid rfl, Below.refl _ _⟩
  case round =>
    obtain ⟨k, hk, rfl, HK, hb⟩ := hrel
    by_cases hlt : k < l.length
    · obtain ⟨b, off, a, rfl, hgl, hka, z0, z1, z2, z3, z4⟩ := LegL.get (hL.more hb) hlt
      have i2 : (k : Int) < (l.length : Int) := by omega
      have hc := HF.out a wr (List.mem_of_getElem? hka) hb
      have HT : Hid ((l.take (k + 1)).any p = p a) := Lib.hid (by rw [List.take_add_one, hka, List.any_append, HK.out]; simp)
      cases hp : p a <;> rw [hp] at hc HT
      · clear hp hka
        go_wp2_with (refine hc.mono ?_; rintro e w' ⟨rfl, hb'⟩)
        go_roundw
        case rel => exact ⟨k + 1, by omega, by go_num, HT, hb.trans (hb'.mono hb.size)⟩
        case measure => simp [intOf]; omega
      · have HR : Hid (l.any p = true) := Lib.hid (List.any_eq_true.2 ⟨a, List.mem_of_getElem? hka, hp⟩)
        clear hp hka
        go_wp2_with (refine hc.mono ?_; rintro e w' ⟨rfl, hb'⟩)
        go_ret
        exact ⟨_, rfl, fun _ => ⟨k, rfl⟩, fun h => (by rw [HR.out] at h; cases h), hb.trans (hb'.mono hb.size)⟩
    · have HR : Hid (l.any p = false) := Lib.hid (by have h := HK.out; rwa [List.take_of_length_le (by omega)] at h)
      go_wp2
      go_ret
      exact ⟨-1, rfl, fun h => (by rw [HR.out] at h; cases h), fun _ => rfl, hb⟩
set_option maxHeartbeats 1000000 in
theorem containsL_any (g : Nat) (cb : Array Value) (A : Option Addr) (c : Nat) (l : List Lg) (p : Lg → Bool) (w : World) (eg : ∀ args w, (callFunc g args).run Tryz.prog w = .ok (.enter g args) w) (hl : l.length ≤ 1000) (hL : LegL w (.slice A l.length c) l)
    (hf : ∀ (a : Lg) (W : World), a ∈ l → Below w.heap.size w W → Calls Tryz.prog g (#[encG a] ++ cb) W fun e w' => e = .returned (.bool (p a)) ∧ Below W.heap.size W w') :
    Calls Tryz.prog 102 #[.slice A l.length c, .func (.func g) #[] cb] w fun e w' => e = .returned (.bool (l.any p)) ∧ Below w.heap.size w w' := by
  have HI := Lib.hid (indexL_any g cb A c l p w eg hl hL hf)
  clear hf
  cases ha : l.any p
  · rw [ha] at HI
    clear ha
    go_enter Tryz.func102, Tryz.ntmps102
    go_wp2_with (go_at_call 100; refine HI.out.mono ?_; rintro e w' ⟨r, rfl, _, hr, hb⟩; obtain rfl := hr rfl)
    go_ret
    exact ⟨rfl, hb⟩
  · rw [ha] at HI
    clear ha
    go_enter Tryz.func102, Tryz.ntmps102
    go_wp2_with (go_at_call 100; refine HI.out.mono ?_; rintro e w' ⟨r, rfl, hr, _, hb⟩; obtain ⟨k, rfl⟩ := hr rfl; have hk0 : (0 : Int) ≤ (k : Int) := by omega)
    go_ret
    exact ⟨rfl, hb⟩

end Go.Proofs.YtdpcjafkahhecaaGreatDoor

/-
  DERIVED: THE SHELF's CONTRACTS AT THIS DUMP, IN PLAIN WORDS (tools/lay-plain.mjs out of 'TryzShelf.lean', which tools/lay-shelf.mjs wrote): THE SAME DECLARATIONS UNDER THE SAME NAMES: 'import', 'namespace', 'open', 'def', 'theorem' AND NOTHING ELSE: no command of the shelf's: FOR A HAND-IN. Each laying: the table of numbers ('.._ren') and one theorem, a field a fact of the dump's own or the kernel's comparison; each contract: ONE APPLICATION.
-/
namespace Go.Proofs
open Go.Shelf
def Tryz.lays171_ren : Go.Shelf.Ren := ⟨fun | 171 => 63 | 243 => 104 | 246 => 126 | 283 => 131 | 284 => 132 | 285 => 133 | 286 => 134 | 129 => 141 | 317 => 140 | 318 => 142 | 319 => 143 | 320 => 144 | 337 => 147 | 338 => 148 | n => n, fun | 3 => 3 | 9 => 9 | 2 => 2 | 4 => 4 | 171 => 175 | 0 => 0 | 53 => 118 | 37 => 174 | 5 => 5 | 173 => 178 | 212 => 184 | 51 => 185 | 20 => 20 | 213 => 186 | 46 => 187 | 232 => 192 | 233 => 193 | n => n, fun | 17 => 0 | 18 => 1 | 19 => 2 | n => n⟩
theorem Tryz.lays171 : Go.Proofs.Lays.n171 Tryz.prog Tryz.lays171_ren := {
  mixed := by kernel_rfl
  f129 := Tryz.func141.trans (congrArg some (by kernel_rfl))
  f171 := Tryz.func63.trans (congrArg some (by kernel_rfl))
  f243 := Tryz.func104.trans (congrArg some (by kernel_rfl))
  f246 := Tryz.func126.trans (congrArg some (by kernel_rfl))
  f283 := Tryz.func131.trans (congrArg some (by kernel_rfl))
  f284 := Tryz.func132.trans (congrArg some (by kernel_rfl))
  f285 := Tryz.func133.trans (congrArg some (by kernel_rfl))
  f286 := Tryz.func134.trans (congrArg some (by kernel_rfl))
  f317 := Tryz.func140.trans (congrArg some (by kernel_rfl))
  f318 := Tryz.func142.trans (congrArg some (by kernel_rfl))
  f319 := Tryz.func143.trans (congrArg some (by kernel_rfl))
  f320 := Tryz.func144.trans (congrArg some (by kernel_rfl))
  f337 := Tryz.func147.trans (congrArg some (by kernel_rfl))
  f338 := Tryz.func148.trans (congrArg some (by kernel_rfl))
  t0 := Tryz.underlying0
  a0 := Tryz.isAgg0
  z0 := Tryz.sizeOf0
  v0 := Tryz.zeroValue0
  t2 := Tryz.underlying2
  a2 := Tryz.isAgg2
  z2 := Tryz.sizeOf2
  v2 := Tryz.zeroValue2
  t3 := Tryz.underlying3
  a3 := Tryz.isAgg3
  z3 := Tryz.sizeOf3
  v3 := Tryz.zeroValue3
  t4 := Tryz.underlying4
  a4 := Tryz.isAgg4
  z4 := Tryz.sizeOf4
  v4 := Tryz.zeroValue4
  t5 := Tryz.underlying5
  a5 := Tryz.isAgg5
  z5 := Tryz.sizeOf5
  v5 := Tryz.zeroValue5
  t9 := Tryz.underlying9
  a9 := Tryz.isAgg9
  z9 := Tryz.sizeOf9
  v9 := Tryz.zeroValue9
  t20 := Tryz.underlying20
  a20 := Tryz.isAgg20
  z20 := Tryz.sizeOf20
  v20 := Tryz.zeroValue20
  t37 := Tryz.underlying174
  a37 := Tryz.isAgg174
  z37 := Tryz.sizeOf174
  v37 := Tryz.zeroValue174
  t46 := Tryz.underlying187
  a46 := Tryz.isAgg187
  z46 := Tryz.sizeOf187
  v46 := Tryz.zeroValue187
  t51 := Tryz.underlying185
  a51 := Tryz.isAgg185
  z51 := Tryz.sizeOf185
  v51 := Tryz.zeroValue185
  t53 := Tryz.underlying118
  a53 := Tryz.isAgg118
  z53 := Tryz.sizeOf118
  v53 := Tryz.zeroValue118
  t171 := Tryz.underlying175
  a171 := Tryz.isAgg175
  z171 := Tryz.sizeOf175
  v171 := Tryz.zeroValue175
  t173 := Tryz.underlying178
  a173 := Tryz.isAgg178
  z173 := Tryz.sizeOf178
  v173 := Tryz.zeroValue178
  t212 := Tryz.underlying184
  a212 := Tryz.isAgg184
  z212 := Tryz.sizeOf184
  v212 := Tryz.zeroValue184
  t213 := Tryz.underlying186
  a213 := Tryz.isAgg186
  z213 := Tryz.sizeOf186
  t232 := Tryz.underlying192
  a232 := Tryz.isAgg192
  z232 := Tryz.sizeOf192
  v232 := Tryz.zeroValue192
  t233 := Tryz.underlying193
  a233 := Tryz.isAgg193
  z233 := Tryz.sizeOf193
  v233 := Tryz.zeroValue193
  g17 := by kernel_rfl
  g18 := by kernel_rfl
  g19 := by kernel_rfl }
open Go.RowKit Go.Sort Go.Lib in
/-- THE ROAD WITHOUT THE TABLE: 0 <= i < 100: NO PREMISE ON THE WORLD, AND THE WORLD IS AS IT WAS: a row that keeps its argument in that range need list no table ('laid = []'). (LAID: no walk: one application.) -/
theorem Tryz.strconv_Itoa_small (i : Nat) (hi : i < 100) (w : World) :
    Calls Tryz.prog 63 #[.int .i64 i] w fun e w' => e = .returned (.string ⟨(Lib.decDigits i).toArray⟩) ∧ w' = w := Any.strconv_Itoa_small Tryz.lays171 i hi w
end Go.Proofs

/- Walk of text.Decimal for any number: it asks the table of powers of ten. -/
namespace Go.Proofs.YtdpcjafkahhecaaGreatDoor
open Go.RowKit
set_option linter.unusedSimpArgs false
set_option linter.unusedVariables false

theorem gPow10 : Tryz.prog.globalNamed "internal/strconv.uint64pow10" = some 0 := by kernel_rfl
/-- the table of powers of ten stands as it was laid -/
structure EnvP (w : World) : Prop where
  pow : Lib.TabIs Tryz.prog w "internal/strconv.uint64pow10" .u64 Lib.pow10Tab
theorem varP_lt {w : World} {n : String} {g : Nat} {cs : Array Value} (hg : Tryz.prog.globalNamed n = some g) (h : w.var? Tryz.prog n = some cs) : g < w.heap.size := by
  unfold World.var? at h
  simp only [hg, Option.bind_some] at h
  rcases Nat.lt_or_ge g w.heap.size with h' | h'
  · exact h'
  · rw [Array.getElem?_eq_none h'] at h; cases h
theorem EnvP.more {w w' : World} (h : EnvP w) (hb : Below w.heap.size w w') : EnvP w' := ⟨var?_below hb gPow10 (varP_lt gPow10 h.pow) h.pow⟩
end Go.Proofs.YtdpcjafkahhecaaGreatDoor

/- What the rows of flights ask besides the walks: a world for the witness; the listed table; arguments opened (places, flights). -/
namespace Go.Proofs.YtdpcjafkahhecaaGreatDoor
open Go.ChangeShapes Go.WideShapes Go.ChangeAt Go.RowKit
set_option linter.unusedSimpArgs false
set_option linter.unusedVariables false

theorem own : ownKnob Tryz.prog.godebug = none := by kernel_rfl
theorem laidOut : laidOutB Tryz.prog = true := by kernel_rfl
theorem gPowType : (Tryz.prog.globals[0]?).map (·.type) = some 184 := by kernel_rfl
theorem cellsPow : Tryz.prog.cellsOf 184 = 20 := by kernel_rfl
theorem cells_u64 : Tryz.prog.cellsOf 118 = 1 := by kernel_rfl
/-- the listed table of powers of ten -/
theorem env_of {W : World} (h : laidMetH Tryz.prog Rows.codeshareChecksRow.laid W) : EnvP W := by
  have h' : laidMet Tryz.prog Rows.codeshareChecksRow.laid W := h
  have h2 := h'.tail.tail
  exact ⟨Lib.tabIs_of_head gPow10 gPowType Tryz.underlying184 Tryz.underlying118 cells_u64 cellsPow h2⟩

/-! ### A world for the witness -/
noncomputable def low : Nat := (World.holding Tryz.prog default ⟨#[], #[], []⟩).heap.size
def putCells (cs : Array Value) : Obj → Obj
  | .cells _ t frozen => .cells cs t frozen
  | o => o
def litsOf (k : IntKind) : DataW Unit → List Value
  | .agg ps => ps.map fun | .lit (.int _ z) => .int k z | _ => .int k 0
  | _ => []
noncomputable def laidWorld (os : Os) : World :=
  let w0 := World.holding Tryz.prog os ⟨#[], #[], []⟩
  let h3 := w0.heap.modify 0 (putCells (litsOf .u64 Rows.laid_internal_strconv_uint64pow10).toArray)
  let h4 := h3.modify 1 (putCells (litsOf .u8 Rows.laid_math_bits_deBruijn32tab).toArray)
  let h5 := h4.modify 2 (putCells (litsOf .u8 Rows.laid_math_bits_deBruijn64tab).toArray)
  { w0 with heap := h5 }
theorem laidWorld_met (os : Os) (args : Array Value) : laidMet Tryz.prog Rows.codeshareChecksRow.laid ((laidWorld os).forCall (fun _ _ => 0) ⟨#[], args, []⟩).memory :=
  laidMet_of_run3 8 (by kernel_rfl) (by kernel_rfl) (by kernel_rfl)

/-! ### Places among the arguments -/
theorem int_bounds {a : Int} (h : (Lit.int .i64 a).wf = true) : -9223372036854775808 ≤ a ∧ a ≤ 9223372036854775807 := by
  have e1 : IntKind.i64.min = -9223372036854775808 := rfl
  have e2 : IntKind.i64.max = 9223372036854775807 := rfl
  simp only [Lit.wf, e1, e2, Bool.and_eq_true, decide_eq_true_eq] at h
  omega
theorem cells_string : Tryz.prog.cellsOf 9 = 1 := by kernel_rfl
theorem cells_int : Tryz.prog.cellsOf 3 = 1 := by kernel_rfl
theorem cells_shift : Tryz.prog.cellsOf 166 = 2 := by kernel_rfl
theorem cells_zone : Tryz.prog.cellsOf 100 = 2 := by kernel_rfl
theorem cells_shs : Tryz.prog.cellsOf 98 = 1 := by kernel_rfl
theorem cells_air : Tryz.prog.cellsOf 102 = 5 := by kernel_rfl
theorem cells_dst : Tryz.prog.cellsOf 137 = 3 := by kernel_rfl
theorem cells_places : Tryz.prog.cellsOf 25 = 2 := by kernel_rfl
theorem shs_at (f : Nat → Int × Int) (n i : Nat) (h : i < n) : ((List.range n).map f).getD i (0, 0) = f i := by
  rw [List.getD_eq_getElem?_getD, List.getElem?_map, List.getElem?_range h]; rfl
theorem open_shs {H : Type} {enc : TypeId × Value → H} {W : World} {n : Nat} {v : Value} {y : DataW H × List MemPlace} (h : DataW.trod enc Tryz.prog W 0 (fun _ => true) true n 98 [v] = some y) :
    ∃ (A : Option Addr) (c : Nat) (l : Shs), v = .slice A l.length c ∧ ShL W A l ∧ (∀ k, k < l.length → -9223372036854775808 ≤ shA l k ∧ shA l k ≤ 9223372036854775807) ∧ l.length < 9223372036854775808 := by
  rcases Deep.open_slice_pairs Tryz.underlying98 Tryz.underlying166 cells_shift rfl rfl cells_int cells_int h with ⟨hcs, rfl⟩ | ⟨a, len, cap, m', n, V0, V1, D0, D1, P0, P1, hcs, _, hl, hm, hmm, rfl, hx⟩
  · simp at hcs
    subst hcs
    exact ⟨none, 0, [], rfl, .inl rfl, fun k hk => by simp at hk, by simp⟩
  · simp at hcs
    subst hcs
    simp at hmm
    subst hmm
    have em : maxLen = 9223372036854775807 := by decide
    have each : ∀ i, i < m' → ∃ q : Int × Int, V0 i = .int .i64 q.1 ∧ V1 i = .int .i64 q.2 ∧ -9223372036854775808 ≤ q.1 ∧ q.1 ≤ 9223372036854775807 := fun i hi => by
      obtain ⟨_, _, g0, g1⟩ := hx i hi
      obtain ⟨x, e0, _, w0⟩ := DataW.trod_int Tryz.underlying3 g0
      obtain ⟨y, e1, _, w1⟩ := DataW.trod_int Tryz.underlying3 g1
      simp at e0 e1
      exact ⟨(x, y), e0, e1, int_bounds w0⟩
    obtain ⟨f, hf⟩ := Deep.choose_lt each
    have el : ((List.range len).map f).length = len := by simp
    refine ⟨some a, m', (List.range len).map f, by rw [el], ?_, ?_, by rw [el]; omega⟩
    · rcases Nat.eq_zero_or_pos len with h0 | h0
      · left; rw [h0]; rfl
      · right
        obtain ⟨b, off, spot⟩ := a
        have h1 := (hx 0 (by omega)).1
        have hspot : spot = none := by simpa [Addr.add] using World.cell?_spot h1
        subst hspot
        have hadd : ∀ i, (⟨b, off, none⟩ : Addr).add i = ⟨b, off + i, none⟩ := fun i => by unfold Addr.add; split <;> simp_all
        refine ⟨b, off, rfl, by simpa [Addr.add] using World.block_lt_of_cell? _ _ h1, fun i hi => ?_⟩
        rw [el] at hi
        obtain ⟨g0, g1, _, _⟩ := hx i (by omega)
        obtain ⟨e0, e1, _⟩ := hf i (by omega)
        rw [hadd, e0] at g0
        rw [hadd, e1] at g1
        unfold shA shF
        rw [shs_at f len i hi]
        exact ⟨g0, by rw [Nat.add_assoc]; exact g1⟩
    · intro k hk
      rw [el] at hk
      unfold shA
      rw [shs_at f len k hk]
      exact (hf k (by omega)).2.2
instance : Inhabited Air := ⟨airZ⟩
instance : Inhabited Dst := ⟨⟨noB, noB, 0⟩⟩
theorem len2 {α : Type} : ∀ {l : List α}, l.length = 2 → ∃ a b, l = [a, b]
  | [a, b], _ => ⟨a, b, rfl⟩
theorem len3 {α : Type} : ∀ {l : List α}, l.length = 3 → ∃ a b c, l = [a, b, c]
  | [a, b, c], _ => ⟨a, b, c, rfl⟩
theorem len4 {α : Type} : ∀ {l : List α}, l.length = 4 → ∃ a b c d, l = [a, b, c, d]
  | [a, b, c, d], _ => ⟨a, b, c, d, rfl⟩
theorem len5 {α : Type} : ∀ {l : List α}, l.length = 5 → ∃ a b c d e, l = [a, b, c, d, e]
  | [a, b, c, d, e], _ => ⟨a, b, c, d, e, rfl⟩
set_option maxRecDepth 100000 in
theorem open_air {H : Type} {enc : TypeId × Value → H} {W : World} {n b o : Nat} {cs : List Value} {y : DataW H × List MemPlace} (hc : W.cells? 0 ⟨b, o, none⟩ 5 = some cs) (h : DataW.trod enc Tryz.prog W 0 (fun _ => true) true n 102 cs = some y) :
    ∃ a : Air, AirAt W b o a ∧ OkA a := by
  obtain ⟨_, hlen, hcell⟩ := World.cells?_some hc
  obtain ⟨xs, k, _, _, _, hxl, hf⟩ := DataW.trod_struct Tryz.underlying102 h
  obtain ⟨y0, y1, y2, y3, rfl⟩ := len4 hxl
  obtain ⟨v0, v1, v2, v3, v4, rfl⟩ := len5 hlen
  all_goals
    have g0 := hf 0 _ rfl
    have g1 := hf 1 _ rfl
    have g2 := hf 2 _ rfl
    have g3 := hf 3 _ rfl
    simp [cells_string, cells_zone] at g0 g1 g2 g3
    obtain ⟨s0, e0, _, z0⟩ := DataW.trod_string Tryz.underlying9 g0
    obtain ⟨s1, e1, _, z1⟩ := DataW.trod_string Tryz.underlying9 g1
    obtain ⟨s2, e2, _, z2⟩ := DataW.trod_string Tryz.underlying9 g2
    obtain ⟨zs, k2, _, _, _, hzl, hz⟩ := DataW.trod_struct Tryz.underlying100 g3
    obtain ⟨u0, u1, rfl⟩ := len2 hzl
    all_goals
      have q0 := hz 0 _ rfl
      have q1 := hz 1 _ rfl
      simp [cells_int, cells_shs] at q0 q1
      obtain ⟨x, e3, _, w3⟩ := DataW.trod_int Tryz.underlying3 q0
      obtain ⟨A, c, l, e4, hL, hr, hl⟩ := open_shs q1
      simp at e0 e1 e2 e3
      subst e0 e1 e2 e3 e4
      have hadd : ∀ j, (⟨b, o, none⟩ : Addr).add j = ⟨b, o + j, none⟩ := fun j => by unfold Addr.add; split <;> simp_all
      have c0 := hcell 0 (by omega)
      have c1 := hcell 1 (by omega)
      have c2 := hcell 2 (by omega)
      have c3 := hcell 3 (by omega)
      have c4 := hcell 4 (by omega)
      rw [hadd] at c0 c1 c2 c3 c4
      exact ⟨⟨s0, s1, s2, x, A, c, l⟩, ⟨by simpa using c0, by simpa using c1, by simpa using c2, by simpa using c3, by simpa using c4, hL⟩, ⟨z0, z1, z2, hl, hr⟩⟩
set_option maxRecDepth 100000 in
theorem open_dst {H : Type} {enc : TypeId × Value → H} {W : World} {n b o : Nat} {cs : List Value} {y : DataW H × List MemPlace} (hc : W.cells? 0 ⟨b, o, none⟩ 3 = some cs) (h : DataW.trod enc Tryz.prog W 0 (fun _ => true) true n 137 cs = some y) :
    ∃ d : Dst, DstAt W b o d ∧ OkD d := by
  obtain ⟨_, hlen, hcell⟩ := World.cells?_some hc
  obtain ⟨xs, k, _, _, _, hxl, hf⟩ := DataW.trod_struct Tryz.underlying137 h
  obtain ⟨y0, y1, y2, rfl⟩ := len3 hxl
  obtain ⟨v0, v1, v2, rfl⟩ := len3 hlen
  all_goals
    have g0 := hf 0 _ rfl
    have g1 := hf 1 _ rfl
    have g2 := hf 2 _ rfl
    simp [cells_string, cells_int] at g0 g1 g2
    obtain ⟨s0, e0, _, z0⟩ := DataW.trod_string Tryz.underlying9 g0
    obtain ⟨s1, e1, _, z1⟩ := DataW.trod_string Tryz.underlying9 g1
    obtain ⟨x, e2, _, w2⟩ := DataW.trod_int Tryz.underlying3 g2
    simp at e0 e1 e2
    subst e0 e1 e2
    have hadd : ∀ j, (⟨b, o, none⟩ : Addr).add j = ⟨b, o + j, none⟩ := fun j => by unfold Addr.add; split <;> simp_all
    have c0 := hcell 0 (by omega)
    have c1 := hcell 1 (by omega)
    have c2 := hcell 2 (by omega)
    rw [hadd] at c0 c1 c2
    exact ⟨⟨s0, s1, x⟩, ⟨by simpa using c0, by simpa using c1, by simpa using c2⟩, ⟨z0, z1⟩⟩
theorem list_at {α : Type} (f : Nat → α) (n i : Nat) (a : α) (h : ((List.range n).map f)[i]? = some a) : i < n ∧ a = f i := by
  have hi : i < n := by have := (List.getElem?_eq_some_iff.1 h).1; simpa using this
  rw [List.getElem?_map, List.getElem?_range hi] at h
  exact ⟨hi, (Option.some.inj h).symm⟩
set_option maxRecDepth 100000 in
/-- places by value, opened -/
theorem open_places {H : Type} {enc : TypeId × Value → H} {W : World} {b0 : Nat} {v : Value} {d : DataW H} {p : List MemPlace} (hv : Value.okWide Tryz.prog W .any b0 25 v) (h : DataW.Trod enc Tryz.prog W 0 (fun _ => true) true 25 v d p) :
    ∃ pv : PV, v = encP pv ∧ PlL W pv ∧ (∀ a ∈ pv.l, OkA a) ∧ (∀ d ∈ pv.ds, OkD d) ∧ pv.l.length < 9223372036854775808 ∧ pv.ds.length < 9223372036854775808 := by
  have em : maxLen = 9223372036854775807 := by decide
  obtain ⟨v0, v1, y0, y1, m, rfl, rfl, rfl, hy0, hy1⟩ := Joins.open_agg2 Tryz.underlying25 (by kernel_rfl) cells_places hv h
  have hA : ∃ (A : Option Addr) (c : Nat) (l : List Air), v0 = .slice A l.length c ∧ AirL W A l ∧ (∀ a ∈ l, OkA a) ∧ l.length < 9223372036854775808 := by
    rcases Deep.open_slice Tryz.underlying22 hy0 with ⟨hcs, _⟩ | ⟨a, len, cap, m', n, D, Pl, hcs, _, hl, hm, hmm, _, hx⟩
    · simp at hcs
      exact ⟨none, 0, [], hcs, .inl rfl, fun a ha => by simp at ha, by simp⟩
    · simp at hcs hmm
      subst hcs hmm
      rcases Nat.eq_zero_or_pos len with h0 | h0
      · exact ⟨some a, m', [], by rw [h0]; rfl, .inl rfl, fun a ha => by simp at ha, by simp⟩
      obtain ⟨b, off, spot⟩ := a
      obtain ⟨cs0, hc0, _⟩ := hx 0 (by omega)
      have hspot : spot = none := by
        rw [cells_air] at hc0
        obtain ⟨_, hl0, hcell⟩ := World.cells?_some hc0
        have h1 := hcell 0 (by omega)
        rw [List.getElem?_eq_getElem (by omega)] at h1
        simpa [Addr.add] using World.cell?_spot h1
      subst hspot
      have hadd : ∀ i, (⟨b, off, none⟩ : Addr).add i = ⟨b, off + i, none⟩ := fun i => by unfold Addr.add; split <;> simp_all
      have each : ∀ i, i < len → ∃ a : Air, AirAt W b (off + i * 5) a ∧ OkA a := fun i hi => by
        obtain ⟨cs', h1, h2⟩ := hx i (by omega)
        rw [cells_air, hadd] at h1
        exact open_air h1 h2
      obtain ⟨f, hf⟩ := Deep.choose_lt each
      have el : ((List.range len).map f).length = len := by simp
      refine ⟨some ⟨b, off, none⟩, m', (List.range len).map f, by rw [el], .inr ⟨b, off, rfl, World.block_lt_of_cell? _ _ (hf 0 h0).1.c0, fun i a hi => ?_⟩, fun a ha => ?_, by rw [el]; omega⟩
      · obtain ⟨h1, rfl⟩ := list_at f len i a hi
        exact (hf i h1).1
      · obtain ⟨i, hi, rfl⟩ := List.mem_map.1 ha
        exact (hf i (List.mem_range.1 hi)).2
  have hD : ∃ (A : Option Addr) (c : Nat) (l : List Dst), v1 = .slice A l.length c ∧ DstL W A l ∧ (∀ a ∈ l, OkD a) ∧ l.length < 9223372036854775808 := by
    rcases Deep.open_slice Tryz.underlying23 hy1 with ⟨hcs, _⟩ | ⟨a, len, cap, m', n, D, Pl, hcs, _, hl, hm, hmm, _, hx⟩
    · simp at hcs
      exact ⟨none, 0, [], hcs, .inl rfl, fun a ha => by simp at ha, by simp⟩
    · simp at hcs hmm
      subst hcs hmm
      rcases Nat.eq_zero_or_pos len with h0 | h0
      · exact ⟨some a, m', [], by rw [h0]; rfl, .inl rfl, fun a ha => by simp at ha, by simp⟩
      obtain ⟨b, off, spot⟩ := a
      obtain ⟨cs0, hc0, _⟩ := hx 0 (by omega)
      have hspot : spot = none := by
        rw [cells_dst] at hc0
        obtain ⟨_, hl0, hcell⟩ := World.cells?_some hc0
        have h1 := hcell 0 (by omega)
        rw [List.getElem?_eq_getElem (by omega)] at h1
        simpa [Addr.add] using World.cell?_spot h1
      subst hspot
      have hadd : ∀ i, (⟨b, off, none⟩ : Addr).add i = ⟨b, off + i, none⟩ := fun i => by unfold Addr.add; split <;> simp_all
      have each : ∀ i, i < len → ∃ a : Dst, DstAt W b (off + i * 3) a ∧ OkD a := fun i hi => by
        obtain ⟨cs', h1, h2⟩ := hx i (by omega)
        rw [cells_dst, hadd] at h1
        exact open_dst h1 h2
      obtain ⟨f, hf⟩ := Deep.choose_lt each
      have el : ((List.range len).map f).length = len := by simp
      refine ⟨some ⟨b, off, none⟩, m', (List.range len).map f, by rw [el], .inr ⟨b, off, rfl, World.block_lt_of_cell? _ _ (hf 0 h0).1.c0, fun i a hi => ?_⟩, fun a ha => ?_, by rw [el]; omega⟩
      · obtain ⟨h1, rfl⟩ := list_at f len i a hi
        exact (hf i h1).1
      · obtain ⟨i, hi, rfl⟩ := List.mem_map.1 ha
        exact (hf i (List.mem_range.1 hi)).2
  obtain ⟨A, ca, l, rfl, h1, h2, h3⟩ := hA
  obtain ⟨D, cd, ds, rfl, h4, h5, h6⟩ := hD
  exact ⟨⟨A, ca, l, D, cd, ds⟩, rfl, ⟨h1, h4⟩, h2, h5, h3, h6⟩


/-! ### A flight among the arguments -/
theorem cells_leg : Tryz.prog.cellsOf 107 = 5 := by kernel_rfl
theorem cells_legs : Tryz.prog.cellsOf 68 = 1 := by kernel_rfl
theorem cells_per : Tryz.prog.cellsOf 58 = 3 := by kernel_rfl
theorem cells_fli : Tryz.prog.cellsOf 70 = 6 := by kernel_rfl
structure OkFl (f : FV) : Prop where
  car : f.car.size ≤ maxLen
  num : -9223372036854775808 ≤ f.num ∧ f.num ≤ 9223372036854775807
  pf : -9223372036854775808 ≤ f.pf ∧ f.pf ≤ 9223372036854775807
  pt : -9223372036854775808 ≤ f.pt ∧ f.pt ≤ 9223372036854775807
  pd : -9223372036854775808 ≤ f.pd ∧ f.pd ≤ 9223372036854775807
  lg : ∀ x ∈ f.lg, OkG x
  len : f.lg.length < 9223372036854775808
  cap : f.lg.length ≤ f.c
instance : Inhabited Lg := ⟨⟨noB, noB, 0, 0, noB⟩⟩
set_option maxRecDepth 100000 in
theorem open_leg {H : Type} {enc : TypeId × Value → H} {W : World} {n b o : Nat} {cs : List Value} {y : DataW H × List MemPlace} (hc : W.cells? 0 ⟨b, o, none⟩ 5 = some cs) (h : DataW.trod enc Tryz.prog W 0 (fun _ => true) true n 107 cs = some y) :
    ∃ x : Lg, (∀ j u, (encLg x)[j]? = some u → W.cell? ⟨b, o + j, none⟩ = some u) ∧ OkG x := by
  obtain ⟨_, hlen, hcell⟩ := World.cells?_some hc
  obtain ⟨xs, k, _, _, _, hxl, hf⟩ := DataW.trod_struct Tryz.underlying107 h
  obtain ⟨y0, y1, y2, y3, y4, rfl⟩ := len5 hxl
  obtain ⟨v0, v1, v2, v3, v4, rfl⟩ := len5 hlen
  all_goals
    have g0 := hf 0 _ rfl
    have g1 := hf 1 _ rfl
    have g2 := hf 2 _ rfl
    have g3 := hf 3 _ rfl
    have g4 := hf 4 _ rfl
    simp [cells_string, cells_int] at g0 g1 g2 g3 g4
    obtain ⟨s0, e0, _, z0⟩ := DataW.trod_string Tryz.underlying9 g0
    obtain ⟨s1, e1, _, z1⟩ := DataW.trod_string Tryz.underlying9 g1
    obtain ⟨x2, e2, _, w2⟩ := DataW.trod_int Tryz.underlying3 g2
    obtain ⟨x3, e3, _, w3⟩ := DataW.trod_int Tryz.underlying3 g3
    obtain ⟨s4, e4, _, z4⟩ := DataW.trod_string Tryz.underlying9 g4
    simp at e0 e1 e2 e3 e4
    subst e0 e1 e2 e3 e4
    have hadd : ∀ j, (⟨b, o, none⟩ : Addr).add j = ⟨b, o + j, none⟩ := fun j => by unfold Addr.add; split <;> simp_all
    refine ⟨⟨s0, s1, x2, x3, s4⟩, fun j u hu => ?_, ⟨z0, z1, z4, int_bounds w2, int_bounds w3⟩⟩
    have hj : j < 5 := (List.getElem?_eq_some_iff.1 hu).1
    have hc2 := hcell j hj
    rw [hadd] at hc2
    rw [hc2]
    exact hu
set_option maxRecDepth 100000 in
theorem open_legs {H : Type} {enc : TypeId × Value → H} {W : World} {n : Nat} {v : Value} {y : DataW H × List MemPlace} (h : DataW.trod enc Tryz.prog W 0 (fun _ => true) true n 68 [v] = some y) :
    ∃ (A : Option Addr) (c : Nat) (l : List Lg), v = .slice A l.length c ∧ LegL W (.slice A l.length c) l ∧ (∀ x ∈ l, OkG x) ∧ l.length < 9223372036854775808 ∧ l.length ≤ c := by
  have em : maxLen = 9223372036854775807 := by decide
  rcases Deep.open_slice Tryz.underlying68 h with ⟨hcs, _⟩ | ⟨a, len, cap, m', n, D, Pl, hcs, _, hl, hm, hmm, _, hx⟩
  · simp at hcs
    exact ⟨none, 0, [], hcs, ⟨none, 0, rfl, .inl rfl⟩, fun a ha => by simp at ha, by simp, by simp⟩
  · simp at hcs hmm
    subst hcs hmm
    rcases Nat.eq_zero_or_pos len with h0 | h0
    · exact ⟨some a, m', [], by rw [h0]; rfl, ⟨some a, m', rfl, .inl rfl⟩, fun a ha => by simp at ha, by simp, by simp⟩
    obtain ⟨b, off, spot⟩ := a
    obtain ⟨cs0, hc0, _⟩ := hx 0 (by omega)
    have hspot : spot = none := by
      rw [cells_leg] at hc0
      obtain ⟨_, hl0, hcell⟩ := World.cells?_some hc0
      have h1 := hcell 0 (by omega)
      rw [List.getElem?_eq_getElem (by omega)] at h1
      simpa [Addr.add] using World.cell?_spot h1
    subst hspot
    have hadd : ∀ i, (⟨b, off, none⟩ : Addr).add i = ⟨b, off + i, none⟩ := fun i => by unfold Addr.add; split <;> simp_all
    have each : ∀ i, i < len → ∃ x : Lg, (∀ j u, (encLg x)[j]? = some u → W.cell? ⟨b, off + i * 5 + j, none⟩ = some u) ∧ OkG x := fun i hi => by
      obtain ⟨cs', h1, h2⟩ := hx i (by omega)
      rw [cells_leg, hadd] at h1
      exact open_leg h1 h2
    obtain ⟨f, hf⟩ := Deep.choose_lt each
    have el : ((List.range len).map f).length = len := by simp
    refine ⟨some ⟨b, off, none⟩, m', (List.range len).map f, by rw [el], ⟨some ⟨b, off, none⟩, m', rfl, .inr ⟨b, off, rfl, World.block_lt_of_cell? _ _ ((hf 0 h0).1 0 _ rfl), fun i x j u hi hu => ?_⟩⟩, fun a ha => ?_, by rw [el]; omega, by rw [el]; omega⟩
    · obtain ⟨h1, rfl⟩ := list_at f len i x hi
      exact (hf i h1).1 j u hu
    · obtain ⟨i, hi, rfl⟩ := List.mem_map.1 ha
      exact (hf i (List.mem_range.1 hi)).2
set_option maxRecDepth 100000 in
/-- the cells of a flight, read -/
theorem read_flight {H : Type} {enc : TypeId × Value → H} {W : World} {n : Nat} {c0 c1 c2 c3 c4 c5 : Value} {y : DataW H × List MemPlace} (h : DataW.trod enc Tryz.prog W 0 (fun _ => true) true n 70 [c0, c1, c2, c3, c4, c5] = some y) :
    ∃ fv : FV, (#[c0, c1, c2, c3, c4, c5] : Array Value) = #[.string fv.car, .int .i64 fv.num, .int .i64 fv.pf, .int .i64 fv.pt, .int .i64 fv.pd, .slice fv.A fv.lg.length fv.c] ∧ LegL W (.slice fv.A fv.lg.length fv.c) fv.lg ∧ OkFl fv := by
  obtain ⟨xs, k, _, _, _, hxl, hf⟩ := DataW.trod_struct Tryz.underlying70 h
  obtain ⟨y0, y1, y2, y3, rfl⟩ := len4 hxl
  all_goals
    have g0 := hf 0 _ rfl
    have g1 := hf 1 _ rfl
    have g2 := hf 2 _ rfl
    have g3 := hf 3 _ rfl
    simp [cells_string, cells_int, cells_per, cells_legs] at g0 g1 g2 g3
    obtain ⟨s0, e0, _, z0⟩ := DataW.trod_string Tryz.underlying9 g0
    obtain ⟨x1, e1, _, w1⟩ := DataW.trod_int Tryz.underlying3 g1
    obtain ⟨zs, k2, _, _, _, hzl, hz⟩ := DataW.trod_struct Tryz.underlying58 g2
    obtain ⟨u0, u1, u2, rfl⟩ := len3 hzl
    all_goals
      have q0 := hz 0 _ rfl
      have q1 := hz 1 _ rfl
      have q2 := hz 2 _ rfl
      simp [cells_int] at q0 q1 q2
      obtain ⟨a0, r0, _, b0⟩ := DataW.trod_int Tryz.underlying3 q0
      obtain ⟨a1, r1, _, b1⟩ := DataW.trod_int Tryz.underlying3 q1
      obtain ⟨a2, r2, _, b2⟩ := DataW.trod_int Tryz.underlying3 q2
      obtain ⟨A, c, l, e3, hL, hr, hl, hcap⟩ := open_legs g3
      simp at e0 e1 r0 r1 r2
      subst e0 e1 e3 r0 r1 r2
      exact ⟨⟨s0, x1, a0, a1, a2, A, c, l⟩, rfl, hL, ⟨z0, int_bounds w1, int_bounds b0, int_bounds b1, int_bounds b2, hr, hl, hcap⟩⟩
end Go.Proofs.YtdpcjafkahhecaaGreatDoor

/- Plain facts on periods: sets of days as ascending lists; nothing of the program. -/
namespace Go.Proofs.YtdpcjafkahhecaaGreatDoor.Per
set_option linter.unusedSimpArgs false
set_option linter.unusedVariables false

abbrev Per := Int × Int × Int
def okQ (p : Per) : Bool := decide (0 ≤ p.1 ∧ p.1 ≤ p.2.1 ∧ p.2.1 < 36525 ∧ p.2.1 - p.1 < 800 ∧ 1 ≤ p.2.2 ∧ p.2.2 ≤ 127)
def errQ (p : Per) : Int := if p.1 < 0 ∨ p.2.1 < p.1 ∨ 36525 ≤ p.2.1 then 12 else if 800 ≤ p.2.1 - p.1 then 4 else if p.2.2 < 1 ∨ 127 < p.2.2 then 2 else 0
theorem okQ_yes {p : Per} (h : okQ p = true) : 0 ≤ p.1 ∧ p.1 ≤ p.2.1 ∧ p.2.1 < 36525 ∧ p.2.1 - p.1 < 800 ∧ 1 ≤ p.2.2 ∧ p.2.2 ≤ 127 := by simpa [okQ] using h
theorem okQ_mk {p : Per} (h : 0 ≤ p.1 ∧ p.1 ≤ p.2.1 ∧ p.2.1 < 36525 ∧ p.2.1 - p.1 < 800 ∧ 1 ≤ p.2.2 ∧ p.2.2 ≤ 127) : okQ p = true := by simpa [okQ] using h
theorem errQ_ok {p : Per} (h : okQ p = true) : errQ p = 0 := by
  have := okQ_yes h
  rw [errQ, if_neg (by omega), if_neg (by omega), if_neg (by omega)]
theorem errQ_no {p : Per} (h : okQ p = false) : errQ p ≠ 0 := by
  intro e
  have : okQ p = true := by
    unfold errQ at e
    split at e
    · omega
    · split at e
      · omega
      · split at e
        · omega
        · exact okQ_mk (by omega)
  rw [h] at this
  cases this
theorem errQ_two {p : Per} (h : okQ p = false) : (errQ p == 0) = false := beq_eq_false_iff_ne.2 (errQ_no h)

/-- the place of a day's weekday -/
def wkN (n : Int) : Nat := ((n + 5) % 7).toNat
theorem wkN_lt (n : Int) : wkN n < 7 := by unfold wkN; omega
theorem wkN_int (n : Int) : ((wkN n : Nat) : Int) = (n + 5) % 7 := by unfold wkN; omega
def wdB (d : Int) (n : Int) : Bool := d.toNat.testBit (wkN n)
def hasQ (p : Per) (n : Int) : Bool := okQ p && (decide (p.1 ≤ n) && (decide (n ≤ p.2.1) && wdB p.2.2 n))
theorem hasQ_iff (p : Per) (n : Int) : hasQ p n = true ↔ okQ p = true ∧ p.1 ≤ n ∧ n ≤ p.2.1 ∧ wdB p.2.2 n = true := by simp [hasQ]

/-! ### lists that ascend -/
def Asc (l : List Int) : Prop := l.Pairwise (· < ·)
theorem asc_ext : ∀ {l m : List Int}, Asc l → Asc m → (∀ n, n ∈ l ↔ n ∈ m) → l = m
  | [], [], _, _, _ => rfl
  | [], y :: m, _, _, h => by have := (h y).2 (by simp); simp at this
  | x :: l, [], _, _, h => by have := (h x).1 (by simp); simp at this
  | x :: l, y :: m, hl, hm, h => by
    have hl' := List.pairwise_cons.1 hl
    have hm' := List.pairwise_cons.1 hm
    have e : x = y := by
      have h1 := (h x).1 (by simp)
      have h2 := (h y).2 (by simp)
      rcases List.mem_cons.1 h1 with e | h1
      · exact e
      · rcases List.mem_cons.1 h2 with e | h2
        · exact e.symm
        · have := hl'.1 y h2; have := hm'.1 x h1; omega
    subst e
    congr 1
    refine asc_ext hl'.2 hm'.2 fun n => ⟨fun hn => ?_, fun hn => ?_⟩
    · rcases List.mem_cons.1 ((h n).1 (List.mem_cons_of_mem _ hn)) with e | h2
      · subst e; have := hl'.1 n hn; omega
      · exact h2
    · rcases List.mem_cons.1 ((h n).2 (List.mem_cons_of_mem _ hn)) with e | h2
      · subst e; have := hm'.1 n hn; omega
      · exact h2
theorem asc_filter {l : List Int} (h : Asc l) (q : Int → Bool) : Asc (l.filter q) := List.Pairwise.filter q h

/-- k days from f on -/
def fromR (f : Int) (k : Nat) : List Int := (List.range k).map fun (i : Nat) => f + (i : Int)
theorem fromR_succ (f : Int) (k : Nat) : fromR f (k + 1) = fromR f k ++ [f + (k : Int)] := by simp [fromR, List.range_succ]
theorem fromR_length (f : Int) (k : Nat) : (fromR f k).length = k := by simp [fromR]
theorem fromR_mem (f : Int) (k : Nat) (n : Int) : n ∈ fromR f k ↔ f ≤ n ∧ n < f + k := by
  simp only [fromR, List.mem_map, List.mem_range]
  constructor
  · rintro ⟨i, hi, rfl⟩; omega
  · rintro ⟨h1, h2⟩; exact ⟨(n - f).toNat, by omega, by omega⟩
theorem fromR_asc (f : Int) (k : Nat) : Asc (fromR f k) := by
  unfold Asc fromR
  rw [List.pairwise_map]
  exact List.pairwise_lt_range.imp (by intro a b h; omega)

/-- the days of a set: the first k days looked at; all -/
def daysTo (p : Per) (k : Nat) : List Int := (fromR p.1 k).filter fun n => wdB p.2.2 n
def lenQ (p : Per) : Nat := (p.2.1 - p.1 + 1).toNat
def daysQ (p : Per) : List Int := if okQ p then daysTo p (lenQ p) else []
theorem daysTo_hit (p : Per) (k : Nat) (h : wdB p.2.2 (p.1 + k) = true) : daysTo p (k + 1) = daysTo p k ++ [p.1 + (k : Int)] := by
  rw [daysTo, fromR_succ, List.filter_append]; simp [daysTo, h]
theorem daysTo_miss (p : Per) (k : Nat) (h : wdB p.2.2 (p.1 + k) = false) : daysTo p (k + 1) = daysTo p k := by
  rw [daysTo, fromR_succ, List.filter_append]; simp [daysTo, h]
theorem daysTo_len (p : Per) (k : Nat) : (daysTo p k).length ≤ k := by
  have := List.length_filter_le (fun n => wdB p.2.2 n) (fromR p.1 k)
  rw [fromR_length] at this
  exact this
theorem daysQ_yes {p : Per} (h : okQ p = true) : daysQ p = daysTo p (lenQ p) := by rw [daysQ, if_pos h]
theorem daysQ_no {p : Per} (h : okQ p = false) : daysQ p = [] := by rw [daysQ, if_neg (by simp [h])]
theorem daysQ_mem (p : Per) (n : Int) : n ∈ daysQ p ↔ hasQ p n = true := by
  rw [hasQ_iff]
  cases h : okQ p
  · rw [daysQ_no h]; simp
  · rw [daysQ_yes h, daysTo, List.mem_filter, fromR_mem, lenQ]
    have := okQ_yes h
    constructor
    · rintro ⟨⟨h1, h2⟩, h3⟩; exact ⟨rfl, h1, by omega, h3⟩
    · rintro ⟨_, h1, h2, h3⟩; exact ⟨⟨h1, by omega⟩, h3⟩
theorem daysQ_asc (p : Per) : Asc (daysQ p) := by
  cases h : okQ p
  · rw [daysQ_no h]; exact List.Pairwise.nil
  · rw [daysQ_yes h]; exact asc_filter (fromR_asc _ _) _
theorem daysQ_len (p : Per) : (daysQ p).length ≤ 800 := by
  cases h : okQ p
  · rw [daysQ_no h]; simp
  · rw [daysQ_yes h]
    have h1 := daysTo_len p (lenQ p)
    have h2 := okQ_yes h
    unfold lenQ at h1 ⊢
    omega
theorem daysQ_range (p : Per) (n : Int) (h : n ∈ daysQ p) : 0 ≤ n ∧ n < 36525 := by
  rw [daysQ_mem, hasQ_iff] at h
  have := okQ_yes h.1
  omega
theorem daysQ_has (p : Per) (k : Nat) (h : okQ p = true) (hk : k < lenQ p) : hasQ p (p.1 + k) = wdB p.2.2 (p.1 + k) := by
  have h2 := okQ_yes h
  unfold lenQ at hk
  have e1 : p.1 ≤ p.1 + (k : Int) := by omega
  have e2 : p.1 + (k : Int) ≤ p.2.1 := by omega
  simp [hasQ, h, e1, e2]

/-! ### the canonical period of a list -/
def maskN (l : List Int) : Nat := l.foldl (fun m n => m ||| 2 ^ wkN n) 0
theorem maskN_snoc (l : List Int) (x : Int) : maskN (l ++ [x]) = maskN l ||| 2 ^ wkN x := by simp [maskN]
theorem mask_lt : ∀ (l : List Int) (m : Nat), m < 128 → l.foldl (fun m n => m ||| 2 ^ wkN n) m < 128
  | [], m, h => h
  | x :: r, m, h => mask_lt r _ (Nat.or_lt_two_pow (n := 7) h (Nat.pow_lt_pow_right (by omega) (wkN_lt x)))
theorem maskN_lt (l : List Int) : maskN l < 128 := mask_lt l 0 (by omega)
/-- the period that has been gathered -/
def accQ (l : List Int) : Per := (l.headD 0, l.getLastD 0, (maskN l : Int))
def ofQ (l : List Int) : Per × Bool := (accQ l, decide (l ≠ []))
/-- the same, told as the reference does -/
theorem or_add : ∀ m, m < 128 → ∀ k, k < 7 → (m ||| 2 ^ k) = if m / 2 ^ k % 2 = 0 then m + 2 ^ k else m := by decide

/-! ### the intersection, the difference -/
def btw (p : Per) (f t : Int) : Per := (if f < p.1 then p.1 else f, if p.2.1 < t then p.2.1 else t, p.2.2)
def meetQ (a b : Per) : Per := ((btw a b.1 b.2.1).1, (btw a b.1 b.2.1).2.1, ((a.2.2.toNat &&& b.2.2.toNat : Nat) : Int))
theorem testBit_pos {m k : Nat} (h : m.testBit k = true) : 0 < m := by
  rcases Nat.eq_zero_or_pos m with h0 | h0
  · rw [h0] at h; simp at h
  · exact h0
theorem meet_mem (a b : Per) (ha : okQ a = true) (hb : okQ b = true) (n : Int) : hasQ (meetQ a b) n = true ↔ hasQ a n = true ∧ hasQ b n = true := by
  have a1 := okQ_yes ha
  have b1 := okQ_yes hb
  simp only [hasQ_iff]
  have e1 : (meetQ a b).1 = if b.1 < a.1 then a.1 else b.1 := rfl
  have e2 : (meetQ a b).2.1 = if a.2.1 < b.2.1 then a.2.1 else b.2.1 := rfl
  have e3 : wdB (meetQ a b).2.2 n = (wdB a.2.2 n && wdB b.2.2 n) := by
    show (a.2.2.toNat &&& b.2.2.toNat).testBit (wkN n) = _
    rw [Nat.testBit_and]; rfl
  rw [e1, e2, e3, Bool.and_eq_true]
  constructor
  · rintro ⟨h0, h1, h2, h3⟩
    refine ⟨⟨ha, ?_, ?_, h3.1⟩, hb, ?_, ?_, h3.2⟩ <;> (split at h1 <;> split at h2 <;> omega)
  · rintro ⟨⟨_, h1, h2, h3⟩, _, h4, h5, h6⟩
    refine ⟨okQ_mk ?_, ?_, ?_, h3, h6⟩
    · rw [e1, e2]
      have hm : 0 < (a.2.2.toNat &&& b.2.2.toNat) := testBit_pos (k := wkN n) (by rw [Nat.testBit_and]; exact Bool.and_eq_true _ _ ▸ ⟨h3, h6⟩)
      have hm2 : (a.2.2.toNat &&& b.2.2.toNat) ≤ a.2.2.toNat := Nat.and_le_left
      have e4 : (meetQ a b).2.2 = ((a.2.2.toNat &&& b.2.2.toNat : Nat) : Int) := rfl
      rw [e4]
      refine ⟨?_, ?_, ?_, ?_, ?_, ?_⟩ <;> (first | omega | (split <;> (first | omega | (split <;> omega))))
    · split <;> omega
    · split <;> omega
theorem meet_days (a b : Per) (ha : okQ a = true) (hb : okQ b = true) : (daysQ a).filter (fun n => hasQ b n) = daysQ (meetQ a b) :=
  asc_ext (asc_filter (daysQ_asc a) _) (daysQ_asc _) fun n => by
    rw [List.mem_filter, daysQ_mem, daysQ_mem, meet_mem a b ha hb]
def mtQ (a b : Per) : List Int := if okQ a && okQ b then daysQ (meetQ a b) else []
theorem mtQ_filter (a b : Per) : (daysQ a).filter (fun n => hasQ b n) = mtQ a b := by
  unfold mtQ
  cases ha : okQ a
  · simp [daysQ_no ha]
  · cases hb : okQ b
    · simp [hasQ, hb]
    · simp [meet_days a b ha hb]
theorem mtQ_mem (a b : Per) (n : Int) : n ∈ mtQ a b ↔ hasQ a n = true ∧ hasQ b n = true := by
  rw [← mtQ_filter, List.mem_filter, daysQ_mem]
end Go.Proofs.YtdpcjafkahhecaaGreatDoor.Per
