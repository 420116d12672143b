/- Words and walks that the laws below ask: FliD, FliE, PerD, PerM, PerE, CalB, CalC, CalE, PerT, FliI. -/
import Derived.Deep.LoopGhost
import Derived.RangeFuncNested
import Derived.RangeFuncBound
import Derived.RangeFuncCalls
import Derived.RangeFuncLeaves
import Derived.Shelf.Abstract
import Derived.Shelf.RegionOpen
import Derived.WalkKit
import Derived.OwnWalkIn
import Derived.TacticsInMore
import Derived.LoopNIn
import Derived.LoopIn
import Derived.Maps.AppendAt
import Derived.Sort.QuietIn
import Derived.Sort.BigQuietIn
import Derived.Deep.AppendLies
import Derived.RangeFuncBox
import Derived.Deep.WholeRow
import Derived.BigQuiet
import Derived.Deep.QuietTactic
import Derived.Laws.Concat
import Derived.Test.YtdpcjafkahhecaaGreatDoorPk1
import Derived.Test.YtdpcjafkahhecaaGreatDoorPk4
/- Words for legs with their zones; walks of departure, arrival, findNonstops, isOrdered. -/
namespace Go.Proofs.YtdpcjafkahhecaaGreatDoor
open Go.RowKit Go.Shelf
set_option linter.unusedSimpArgs false
set_option linter.unusedVariables false

/-- a leg with the zones of its airports -/
structure NS where
  x : Lg
  fo : Int
  fA : Option Addr
  fc : Nat
  fs : Shs
  ti : Int
  tA : Option Addr
  tc : Nat
  ts : Shs
abbrev nonT : TypeId := 158
def encNS (n : NS) : List Value := [.string n.x.f, .string n.x.t, .int .i64 n.x.dep, .int .i64 n.x.arr, .string n.x.eq, .int .i64 n.fo, .slice n.fA n.fs.length n.fc, .int .i64 n.ti, .slice n.tA n.ts.length n.tc]
abbrev encN (n : NS) : Value := .agg #[.string n.x.f, .string n.x.t, .int .i64 n.x.dep, .int .i64 n.x.arr, .string n.x.eq, .int .i64 n.fo, .slice n.fA n.fs.length n.fc, .int .i64 n.ti, .slice n.tA n.ts.length n.tc]
theorem rtN : RT Tryz.prog 155 nonT 9 encNS where
  ht := Tryz.underlying155
  info := ⟨.agg #[.string noB, .string noB, .int .i64 0, .int .i64 0, .string noB, .int .i64 0, .slice none 0 0, .int .i64 0, .slice none 0 0], 128, by kernel_rfl, rfl, by omega⟩
  len x := rfl
  one x u hu := by simp [encNS] at hu; rcases hu with rfl | rfl | rfl | rfl | rfl | rfl | rfl | rfl | rfl <;> rfl
  pos := by omega

set_option maxRecDepth 100000 in
set_option maxHeartbeats 2000000 in
theorem departure_any (n : NS) (day : Int) (w : World) (ok : OkZ n.fo n.fs) (hL : ShL w n.fA n.fs) (hd : -100000000 ≤ day ∧ day ≤ 100000000) (hm : -1000000 ≤ n.x.dep ∧ n.x.dep ≤ 1000000) :
    Calls Tryz.prog 110 #[encN n, .int .i64 day] w fun e w' => e = .returned (.int .i64 (utcZ n.fo n.fs (day * 1440 + n.x.dep))) ∧ Below w.heap.size w w' := by
  have hb0 := bel_alloc w (.cells (encNS n).toArray nonT)
  have HU := Lib.hid (Zon.utc_any n.fo n.fA n.fc n.fs (day * 1440 + n.x.dep) _ ok (hL.more hb0) (by omega))
  generalize utcZ n.fo n.fs (day * 1440 + n.x.dep) = r at *
  clear ok hL
  unfold encNS at *
  go_enter Tryz.func110, Tryz.ntmps110
  go_wp2_with (go_at_call 128; refine HU.out.mono ?_; rintro e w' ⟨rfl, hb'⟩)
  go_ret
  exact ⟨rfl, hb0.trans (Below.mono hb' hb0.size)⟩
set_option maxRecDepth 100000 in
set_option maxHeartbeats 2000000 in
theorem arrival_any (n : NS) (day : Int) (w : World) (ok : OkZ n.ti n.ts) (hL : ShL w n.tA n.ts) (hd : -100000000 ≤ day ∧ day ≤ 100000000) (hm : -1000000 ≤ n.x.arr ∧ n.x.arr ≤ 1000000) :
    Calls Tryz.prog 111 #[encN n, .int .i64 day] w fun e w' => e = .returned (.int .i64 (utcZ n.ti n.ts (day * 1440 + n.x.arr))) ∧ Below w.heap.size w w' := by
  have hb0 := bel_alloc w (.cells (encNS n).toArray nonT)
  have HU := Lib.hid (Zon.utc_any n.ti n.tA n.tc n.ts (day * 1440 + n.x.arr) _ ok (hL.more hb0) (by omega))
  generalize utcZ n.ti n.ts (day * 1440 + n.x.arr) = r at *
  clear ok hL
  unfold encNS at *
  go_enter Tryz.func111, Tryz.ntmps111
  go_wp2_with (go_at_call 128; refine HU.out.mono ?_; rintro e w' ⟨rfl, hb'⟩)
  go_ret
  exact ⟨rfl, hb0.trans (Below.mono hb' hb0.size)⟩

/-- the airport with a code, or the zero airport -/
def airOf (l : List Air) (s : ByteArray) : Air := (findC l s).getD airZ
/-- shifts that lie in memory of one's own, off the row v -/
def ShO (w : World) (v : Value) (A : Option Addr) (l : Shs) : Prop := ShL w A l ∧ (l = [] ∨ A = none ∨ ∃ g, A = some ⟨g, 0, none⟩ ∧ g < w.heap.size ∧ v.ownBlock ≠ some g)
/-- n is the leg x with its zones -/
structure NsOf (w : World) (v : Value) (l : List Air) (x : Lg) (n : NS) : Prop where
  ex : n.x = x
  fo : n.fo = (airOf l x.f).off
  fs : n.fs = (airOf l x.f).shs
  ti : n.ti = (airOf l x.t).off
  ts : n.ts = (airOf l x.t).shs
  shf : ShO w v n.fA n.fs
  sht : ShO w v n.tA n.ts
theorem ShO.more {w w' : World} {v : Value} {A : Option Addr} {l : Shs} (h : ShO w v A l) (hb : Below w.heap.size w w') : ShO w' v A l :=
  ⟨h.1.more hb, h.2.imp id fun h => h.imp id fun ⟨g, h1, h2, h3⟩ => ⟨g, h1, Nat.lt_of_lt_of_le h2 hb.size, h3⟩⟩
theorem NsOf.more {w w' : World} {v : Value} {l : List Air} {x : Lg} {n : NS} (h : NsOf w v l x n) (hb : Below w.heap.size w w') : NsOf w' v l x n := ⟨h.ex, h.fo, h.fs, h.ti, h.ts, h.shf.more hb, h.sht.more hb⟩
theorem ShO.chg {w w' : World} {v v' : Value} {A : Option Addr} {l : Shs} (h : ShO w v A l) (hc : Chg w w' v v') : ShO w' v' A l := by
  refine ⟨h.1.but' hc.but (h.2.imp id fun h => h.imp id fun ⟨g, h1, h2, h3⟩ => ⟨g, 0, h1, h3⟩), h.2.imp id fun h => h.imp id fun ⟨g, h1, h2, h3⟩ => ⟨g, h1, Nat.lt_of_lt_of_le h2 hc.but.size, fun e => ?_⟩⟩
  rcases hc.own g e with h4 | h4
  · exact h3 h4
  · omega
theorem NsOf.chg {w w' : World} {v v' : Value} {l : List Air} {x : Lg} {n : NS} (h : NsOf w v l x n) (hc : Chg w w' v v') : NsOf w' v' l x n := ⟨h.ex, h.fo, h.fs, h.ti, h.ts, h.shf.chg hc, h.sht.chg hc⟩

set_option maxRecDepth 100000 in
set_option maxHeartbeats 8000000 in
theorem nonstops_any (p : PV) (A : Option Addr) (c : Nat) (lg : List Lg) (w : World) (hl : p.l.length ≤ 40) (hL : AirL w p.A p.l) (hs : ∀ a ∈ p.l, a.shs.length ≤ 300) (hG : LegL w (.slice A lg.length c) lg) (hn : lg.length ≤ 100) :
    Calls Tryz.prog 109 #[encP p, .slice A lg.length c] w fun e w' => ∃ v' L, e = .returned v' ∧ ROwn nonT 9 encNS w.heap.size w' v' L ∧ L.length = lg.length ∧ (∀ (k : Nat) (x : Lg) (n : NS), lg[k]? = some x → L[k]? = some n → NsOf w' v' p.l x n) ∧ Below w.heap.size w w' := by
  have hb0 := bel_alloc w (.cells #[.slice p.A p.l.length p.ca, .slice p.D p.ds.length p.cd] placesT)
  have q0 := (cells_new w #[.slice p.A p.l.length p.ca, .slice p.D p.ds.length p.cd] placesT 0).trans (show _ = some (.slice p.A p.l.length p.ca) from rfl)
  have q1 := (cells_new w #[.slice p.A p.l.length p.ca, .slice p.D p.ds.length p.cd] placesT 1).trans (show _ = some (.slice p.D p.ds.length p.cd) from rfl)
  have hL5 := hL.more hb0
  have hG5 := hG.more hb0
  go_enter Tryz.func109, Tryz.ntmps109
  go_wp2
  generalize hw5 : w.alloc (.cells #[.slice p.A p.l.length p.ca, .slice p.D p.ds.length p.cd] placesT) = w5 at *
  clear hw5
  have y0 := bel_get q0
  have y1 := bel_get q1
  have KF : Hid (∀ s W, SW w5 W → Calls Tryz.prog 127 #[.agg #[.slice p.A p.l.length p.ca, .slice p.D p.ds.length p.cd], .string s] W fun e w' => Below W.heap.size W w' ∧ FindF W.heap.size (airOf p.l s) (findC p.l s).isSome e w') := Lib.hid (fun s W hW => find2_any p s W hl (hL5.more hW) hs)
  have HN : Hid (ROwn nonT 9 encNS w5.heap.size w5 (.slice none 0 0) []) := Lib.hid (ROwn.nil (Nat.le_refl _))
  clear hL hL5 hs
  go_loopg [5, 14] lg.length (fun kx v5 vi wr => ∃ (v : Value) (k : Nat) (L : List NS), v = v5 ∧ vi = .int .i64 k ∧ k + kx = lg.length ∧ Hid (ROwn nonT 9 encNS w5.heap.size wr v L ∧ L.length = k ∧ (∀ (k : Nat) (x : Lg) (n : NS), lg[k]? = some x → L[k]? = some n → NsOf wr v p.l x n) ∧ SW w5 wr))
  case atStart => exact ⟨_, 0, [], rfl, rfl, by omega, Lib.hid ⟨HN.out, rfl, fun k x n _ h => by simp at h, Below.refl _ _⟩⟩
  case round =>
    obtain ⟨v, k, L, rfl, rfl, hkx, HH⟩ := hrel
    clear HN
    have HKX := Lib.hid hkx
    have hSr : SW w5 wr := HH.out.2.2.2
    by_cases hlt : k < lg.length
    · clear hkx
      obtain ⟨b, o, x, rfl, hbl, hx, c0, c1, c2, c3, c4⟩ := LegL.get (hG5.more hSr) hlt
      have HX := Lib.hid hx
      have i2 : (k : Int) < (lg.length : Int) := by omega
      have hbx := bel_alloc wr (.cells #[.string x.f, .string x.t, .int .i64 x.dep, .int .i64 x.arr, .string x.eq] legT)
      have hSx : SW w5 (wr.alloc (.cells #[.string x.f, .string x.t, .int .i64 x.dep, .int .i64 x.arr, .string x.eq] legT)) := Below.alloc hSr hSr.size _
      have l0 := (cells_new wr #[.string x.f, .string x.t, .int .i64 x.dep, .int .i64 x.arr, .string x.eq] legT 0).trans (show _ = some (.string x.f) from rfl)
      have l1 := (cells_new wr #[.string x.f, .string x.t, .int .i64 x.dep, .int .i64 x.arr, .string x.eq] legT 1).trans (show _ = some (.string x.t) from rfl)
      have l2 := (cells_new wr #[.string x.f, .string x.t, .int .i64 x.dep, .int .i64 x.arr, .string x.eq] legT 2).trans (show _ = some (.int .i64 x.dep) from rfl)
      have l3 := (cells_new wr #[.string x.f, .string x.t, .int .i64 x.dep, .int .i64 x.arr, .string x.eq] legT 3).trans (show _ = some (.int .i64 x.arr) from rfl)
      have l4 := (cells_new wr #[.string x.f, .string x.t, .int .i64 x.dep, .int .i64 x.arr, .string x.eq] legT 4).trans (show _ = some (.string x.eq) from rfl)
      have z0 := y0 _ hSx
      have z1 := y1 _ hSx
      have HLn : Hid (L.length ≤ 100000000) := Lib.hid (by have := HH.out.2.1; omega)
      clear hx
      obtain ⟨N, hN⟩ : ∃ N, N = wr.heap.size := ⟨_, rfl⟩
      obtain ⟨a1, ha1⟩ : ∃ a1, a1 = airOf p.l x.f := ⟨_, rfl⟩
      obtain ⟨a2, ha2⟩ : ∃ a2, a2 = airOf p.l x.t := ⟨_, rfl⟩
      have K1 := KF.out x.f _ hSx
      have K2 := KF.out x.t
      rw [← ha1] at K1
      rw [← ha2] at K2
      have K2 := Lib.hid K2
      have HA1 := Lib.hid ha1
      have HA2 := Lib.hid ha2
      have hSz := hbx.size
      clear ha1 ha2
      go_upto_region 7 with (first
        | (go_at_call 127; refine (K2.out _ hS2).mono ?_; rintro e w3 ⟨hb3, A2, c2', rfl, hs2, hf2⟩)
        | (go_at_call 127; refine K1.mono ?_; rintro e w1 ⟨hb1, A1, c1', rfl, hs1, hf1⟩; have hS1 : SW w5 w1 := Below.trans hSx (Below.mono hb1 hSx.size); have hS2 : SW w5 (w1.alloc (.cells #[.string a1.code, .string a1.city, .string a1.land, .int .i64 a1.off, .slice A1 a1.shs.length c1'] airT)) := Below.alloc hS1 hS1.size _; have z0 := y0 _ hS2; have z1 := y1 _ hS2; have hb12 : Below wr.heap.size wr (w1.alloc (.cells #[.string a1.code, .string a1.city, .string a1.land, .int .i64 a1.off, .slice A1 a1.shs.length c1'] airT)) := (hbx.trans (Below.mono hb1 hbx.size)).alloc (Nat.le_trans hbx.size hb1.size) _; have r0 := bel_cell (bel_alloc w1 (.cells #[.string a1.code, .string a1.city, .string a1.land, .int .i64 a1.off, .slice A1 a1.shs.length c1'] airT)) (bel_cell hb1 l0); have r1 := bel_cell (bel_alloc w1 (.cells #[.string a1.code, .string a1.city, .string a1.land, .int .i64 a1.off, .slice A1 a1.shs.length c1'] airT)) (bel_cell hb1 l1)))
      have bx1 := bel_alloc w1 (.cells #[.string a1.code, .string a1.city, .string a1.land, .int .i64 a1.off, .slice A1 a1.shs.length c1'] airT)
      have bx3 := bel_alloc w3 (.cells #[.string a2.code, .string a2.city, .string a2.land, .int .i64 a2.off, .slice A2 a2.shs.length c2'] airT)
      have l0 := bel_cell bx3 (bel_cell hb3 (bel_cell bx1 (bel_cell hb1 l0)))
      have l1 := bel_cell bx3 (bel_cell hb3 (bel_cell bx1 (bel_cell hb1 l1)))
      have l2 := bel_cell bx3 (bel_cell hb3 (bel_cell bx1 (bel_cell hb1 l2)))
      have l3 := bel_cell bx3 (bel_cell hb3 (bel_cell bx1 (bel_cell hb1 l3)))
      have l4 := bel_cell bx3 (bel_cell hb3 (bel_cell bx1 (bel_cell hb1 l4)))
      have m3 := bel_cell bx3 (bel_cell hb3 ((cells_new w1 #[.string a1.code, .string a1.city, .string a1.land, .int .i64 a1.off, .slice A1 a1.shs.length c1'] airT 3).trans (show _ = some (.int .i64 a1.off) from rfl)))
      have m4 := bel_cell bx3 (bel_cell hb3 ((cells_new w1 #[.string a1.code, .string a1.city, .string a1.land, .int .i64 a1.off, .slice A1 a1.shs.length c1'] airT 4).trans (show _ = some (.slice A1 a1.shs.length c1') from rfl)))
      have n3 := (cells_new w3 #[.string a2.code, .string a2.city, .string a2.land, .int .i64 a2.off, .slice A2 a2.shs.length c2'] airT 3).trans (show _ = some (.int .i64 a2.off) from rfl)
      have n4 := (cells_new w3 #[.string a2.code, .string a2.city, .string a2.land, .int .i64 a2.off, .slice A2 a2.shs.length c2'] airT 4).trans (show _ = some (.slice A2 a2.shs.length c2') from rfl)
      have hb13 : Below wr.heap.size wr w3 := hb12.trans (Below.mono hb3 hb12.size)
      have hb14 : Below wr.heap.size wr (w3.alloc (.cells #[.string a2.code, .string a2.city, .string a2.land, .int .i64 a2.off, .slice A2 a2.shs.length c2'] airT)) := hb13.alloc hb13.size _
      have hs1' := ((hs1.more bx1).more hb3).more bx3
      have hs2' := hs2.more bx3
      have hSq : SW w5 (w3.alloc (.cells #[.string a2.code, .string a2.city, .string a2.land, .int .i64 a2.off, .slice A2 a2.shs.length c2'] airT)) := Below.trans hSr (hb14.mono hSr.size)
      have hO := HH.out.1.more hb14
      have HNs := Lib.hid (fun (k' : Nat) (x' : Lg) (n' : NS) h1 h2 => (HH.out.2.2.1 k' x' n' h1 h2).more hb14)
      generalize hw4 : w3.alloc (.cells #[.string a2.code, .string a2.city, .string a2.land, .int .i64 a2.off, .slice A2 a2.shs.length c2'] airT) = w4 at *
      have hfr : ∀ (A' : Option Addr) (l' : Shs), ShL w4 A' l' → (A' = none ∨ ∃ g, A' = some ⟨g, 0, none⟩ ∧ wr.heap.size ≤ g) → ShO w4 v A' l' := fun A' l' h1 h2 => ⟨h1, by
        rcases h1 with h | ⟨b', o', e1, e2, _⟩
        · exact .inl h
        · rcases h2 with h2 | ⟨g, h2, h4⟩
          · exact .inr (.inl h2)
          · refine .inr (.inr ⟨g, h2, ?_, fun e => ?_⟩)
            · rw [h2] at e1; cases e1; exact e2
            · have := (HH.out.1.low e).2; omega⟩
      have HS1 := Lib.hid (hfr A1 a1.shs hs1' (by
        rcases hf1 with h | ⟨g, h, hg⟩
        · exact .inl h
        · exact .inr ⟨g, h, by rw [World.size_alloc] at hg; omega⟩))
      have HS2 := Lib.hid (hfr A2 a2.shs hs2' (by
        rcases hf2 with h | ⟨g, h, hg⟩
        · exact .inl h
        · exact .inr ⟨g, h, by have := hb12.size; omega⟩))
      have HLk := Lib.hid HH.out.2.1
      clear hfr hs1' hs2' hs1 hs2 hf1 hf2 hb3 hb1 bx1 bx3 hb13 HH hw4 K1 K2 hS1 hS2 hb12
      go_wp2_with (at_builtin; refine wpList_rapp rtN rfl _ _ rfl hO rfl (bel_alloc _ _) _ (⟨x, a1.off, A1, c1', a1.shs, a2.off, A2, c2', a2.shs⟩ : NS) _ rfl (cs := #[.string x.f, .string x.t, .int .i64 x.dep, .int .i64 x.arr, .string x.eq, .int .i64 a1.off, .slice A1 a1.shs.length c1', .int .i64 a2.off, .slice A2 a2.shs.length c2']) rfl (heap_alloc_new _ _) HLn.out ?_; intro v' w' hO' hC')
      have HZ : Hid (ROwn nonT 9 encNS w5.heap.size w' v' (L ++ [(⟨x, a1.off, A1, c1', a1.shs, a2.off, A2, c2', a2.shs⟩ : NS)]) ∧ (L ++ [(⟨x, a1.off, A1, c1', a1.shs, a2.off, A2, c2', a2.shs⟩ : NS)]).length = k + 1 ∧ (∀ (k' : Nat) (x' : Lg) (n' : NS), lg[k']? = some x' → (L ++ [(⟨x, a1.off, A1, c1', a1.shs, a2.off, A2, c2', a2.shs⟩ : NS)])[k']? = some n' → NsOf w' v' p.l x' n') ∧ SW w5 w') := Lib.hid ⟨hO', by rw [List.length_append, HLk.out]; rfl, fun k' x' n' h1 h2 => by
        by_cases hk' : k' < L.length
        · rw [List.getElem?_append_left hk'] at h2
          exact (HNs.out k' x' n' h1 h2).chg hC'
        · have hke : k' = k := by
            have := (List.getElem?_eq_some_iff.1 h2).1
            rw [List.length_append] at this
            have := HLk.out
            simp at *
            omega
          subst hke
          rw [List.getElem?_append_right (by omega), HLk.out, Nat.sub_self] at h2
          rw [HX.out] at h1
          cases h1
          cases h2
          exact (⟨rfl, by rw [← HA1.out], by rw [← HA1.out], by rw [← HA2.out], by rw [← HA2.out], HS1.out, HS2.out⟩ : NsOf w4 v p.l x _).chg hC', Below.trans hSq ((hC'.below hO).mono (Nat.le_refl _))⟩
      clear hO' hC' hO
      go_roundg (lg.length - (k + 1))
      case measure => have := HKX.out; omega
      case rel => exact ⟨_, k + 1, _, rfl, by go_num, by omega, HZ⟩
    · have hk : k = lg.length := by omega
      have HZ : Hid (ROwn nonT 9 encNS w.heap.size wr v L ∧ L.length = lg.length ∧ (∀ (k : Nat) (x : Lg) (n : NS), lg[k]? = some x → L[k]? = some n → NsOf wr v p.l x n) ∧ Below w.heap.size w wr) := Lib.hid ⟨⟨HH.out.1.own.mono hb0.size, Nat.le_trans hb0.size hSr.size⟩, by rw [HH.out.2.1, hk], HH.out.2.2.1, hb0.trans (Below.mono hSr hb0.size)⟩
      clear HH hkx hk
      go_wp2
      go_ret
      exact ⟨v, L, rfl, HZ.out⟩

end Go.Proofs.YtdpcjafkahhecaaGreatDoor

/- Walk of isOrdered. -/
namespace Go.Proofs.YtdpcjafkahhecaaGreatDoor
open Go.RowKit Go.Shelf
set_option linter.unusedSimpArgs false
set_option linter.unusedVariables false

/-- departures and arrivals in their order -/
def ordT : Bool → Int → List (Int × Int) → Bool
  | _, _, [] => true
  | first, before, (d, a) :: r => if a ≤ d then false else if first = false ∧ d < before then false else ordT false a r
def depL (l : List Air) (x : Lg) (day : Int) : Int := utcZ (airOf l x.f).off (airOf l x.f).shs (day * 1440 + x.dep)
def arrL (l : List Air) (x : Lg) (day : Int) : Int := utcZ (airOf l x.t).off (airOf l x.t).shs (day * 1440 + x.arr)
def timL (l : List Air) (lg : List Lg) (day : Int) : List (Int × Int) := lg.map fun x => (depL l x day, arrL l x day)
theorem okZ_zero : OkZ 0 [] := ⟨by simp, by omega, fun k h => by simp at h, fun k h => by simp at h, fun k h => by simp at h⟩
theorem okZ_of {l : List Air} (h : ∀ a ∈ l, OkZ a.off a.shs) (s : ByteArray) : OkZ (airOf l s).off (airOf l s).shs := by
  unfold airOf
  cases hc : findC l s with
  | none => exact okZ_zero
  | some a => exact h a (List.mem_of_find?_eq_some hc)
theorem RowL.get9 {w : World} {A : Option Addr} {n c : Nat} {L : List NS} (h : RowL 9 encNS w (.slice A n c) L) {k : Nat} (hk : k < L.length) : ∃ b o y, A = some ⟨b, o, none⟩ ∧ b < w.heap.size ∧ L[k]? = some y ∧ ∀ j u, (encNS y)[j]? = some u → w.cell? ⟨b, o + k * 9 + j, none⟩ = some u := by
  obtain ⟨b, o, h1, h2, h3⟩ := h.at rfl hk
  exact ⟨b, o, L[k], h1, h2, List.getElem?_eq_getElem hk, h3⟩

end Go.Proofs.YtdpcjafkahhecaaGreatDoor

/- The iterator over the days of a period: its contract, over whatever loop. -/
namespace Go.Proofs.YtdpcjafkahhecaaGreatDoor.Per
open Go.RowKit Go.Shelf
set_option linter.unusedSimpArgs false
set_option linter.unusedVariables false
attribute [local go_sem] Oper.semAt_some

/-- a day that there is -/
abbrev Dy := { x : Int // 0 ≤ x ∧ x < 36525 }
abbrev encD (x : Dy) : Array Value := #[.int .i64 x.1]
abbrev perT : TypeId := 58
/-- block B holds the period p -/
def BoxAt (W : World) (B : Nat) (p : Per) : Prop := W.heap[B]? = some (.cells #[.int .i64 p.1, .int .i64 p.2.1, .int .i64 p.2.2] perT (0, 0))
theorem BoxAt.cell {W : World} {B : Nat} {p : Per} (h : BoxAt W B p) : W.cell? ⟨B, 0, none⟩ = some (.int .i64 p.1) ∧ W.cell? ⟨B, 1, none⟩ = some (.int .i64 p.2.1) ∧ W.cell? ⟨B, 2, none⟩ = some (.int .i64 p.2.2) :=
  ⟨cell_of_row _ _ 0 _ _ (0, 0) h, cell_of_row _ _ 1 _ _ (0, 0) h, cell_of_row _ _ 2 _ _ (0, 0) h⟩
theorem BoxAt.lt {W : World} {B : Nat} {p : Per} (h : BoxAt W B p) : B < W.heap.size := (Array.getElem?_eq_some_iff.1 h).1
theorem BoxAt.more {W W' : World} {B : Nat} {p : Per} (h : BoxAt W B p) (hb : Below W.heap.size W W') : BoxAt W' B p := (hb.block B h.lt).trans h
theorem BoxAt.drew' {W : World} {B : Nat} {p : Per} (h : BoxAt W B p) : BoxAt W.drew B p := h.more (Below.refl _ _).drew
/-- what a round keeps -/
def KpB (n₀ B : Nat) (W W' : World) : Prop := Below n₀ W W' ∧ W'.heap[B]? = W.heap[B]?
theorem kp_t {n₀ B : Nat} {X Y Z : World} (h : KpB n₀ B X Y) (k : KpB n₀ B Y Z) : KpB n₀ B X Z := ⟨h.1.trans k.1, k.2.trans h.2⟩
theorem kp_b {n₀ B : Nat} {w : World} (hn : n₀ ≤ w.heap.size) (hB : B < w.heap.size) (W : World) (l : Nat) (o o' : Obj) (hl : w.heap.size ≤ l) (h : W.heap[l]? = some o) (h1 : o.isCells = false) (h2 : o.isWalk = false) : KpB n₀ B W (W.putObj l o') :=
  ⟨belowK_b hn W l o o' hl h h1 h2, World.putObj_heap_other (by omega)⟩
theorem grown_of_below {W W' : World} (h : Below W.heap.size W W') : W.grownBy W' none := ⟨h.os, h.tape, h.output, h.size, fun k hk _ => h.block k hk⟩
theorem abide_below {β : Type} {B : Nat} {J : β → World → Prop} (hJ : AbidesFrom B J) {s : β} {W W' : World} (h : J s W) (hb : Below W.heap.size W W') : J s W' :=
  hJ s W W' none h (grown_of_below hb) (fun r e => by cases e)

/-- the days as numbers -/
def vals (l : List Dy) : List Int := l.map (·.1)
theorem vals_snoc (l : List Dy) (x : Dy) : vals (l ++ [x]) = vals l ++ [x.1] := by simp [vals]
theorem vals_len (l : List Dy) : (vals l).length = l.length := by simp [vals]
theorem wide_fn (f : Nat) : Fence.wide.fn f := trivial
attribute [local simp] wide_fn
theorem quietSIn {F : Fence} {n : Nat} {P : Program} {S : World → Prop} {id : Nat} {Q : Exit → Act → World → Prop} {a : Act} {w : World} {l : List Oper} (hro : F.round = none) (hm : P.follows .mixedOrders = true) (hB : Region.lexB .any l.toArray = true) (hC : S w.drew)
    (h : wpQuietIn F n P l.toArray (fun w' => ∃ x : Wd S, w' = x.w) (fun a' => ∀ w', (∃ x : Wd S, w' = x.w) → Q .normal a' w') l a) : (Code.region id l.toArray true).wpIn F n P Q a w :=
  wpIn_region_quiet (C := fun w' => ∃ x : Wd S, w' = x.w) hro hm hB ⟨⟨_, hC⟩, rfl⟩ (by simpa using h)
theorem quiet_SIn {F : Fence} {n : Nat} {P : Program} {f : FuncId} {args : Array Value} {W : World} {S : World → Prop} {v : Value} (h : CallsIn F n P f args W fun e w' => e = .returned v ∧ S w') :
    CallsIn F n P f args W fun e w'' => e = .returned v ∧ ∃ x : Wd S, w'' = x.w := h.mono (by rintro e w' ⟨he, hs⟩; exact ⟨he, ⟨w', hs⟩, rfl⟩)
/-- a world of a round before its yield -/
def InRd (J : List Dy → World → Prop) (pre : List Dy) (B : Nat) (p : Per) (W : World) : Prop := J pre W ∧ BoxAt W B p
theorem inRd_call {J : List Dy → World → Prop} {B0 : Nat} (hJa : AbidesFrom B0 J) {pre : List Dy} {B : Nat} {p : Per} {f : Nat} {args : Array Value} {v : Value} (h : ∀ W, Calls Tryz.prog f args W fun e w' => e = .returned v ∧ Below W.heap.size W w') (W : World) (hi : InRd J pre B p W) :
    CallsIn Fence.wide 8 Tryz.prog f args W fun e w' => e = .returned v ∧ InRd J pre B p w' :=
  callsIn_wide.2 ((h W).mono (by rintro e w' ⟨he, hb⟩; exact ⟨he, abide_below hJa hi.1 hb, hi.2.more hb⟩))

theorem yield_two {F : Fence} {m : Nat} {P : Program} {l : Nat} {fn : FuncId} {tmps : Array Value} {assign body : Code} {W : World} {R1 R2 : World → Prop}
    (h : RoundIn F m P l fn tmps assign body W fun e W' => (e = .returned (.bool true) ∧ R1 W') ∨ (e = .returned (.bool false) ∧ R2 W')) :
    RoundIn F m P l fn tmps assign body W fun e W' => ∃ b, e = .returned (.bool b) ∧ (b = true → R1 W') ∧ (b = false → R2 W') := h.mono (by
  rintro e W' (⟨rfl, h⟩ | ⟨rfl, h⟩)
  · exact ⟨true, rfl, fun _ => h, fun e => (nomatch e)⟩
  · exact ⟨false, rfl, fun e => (nomatch e), fun _ => h⟩)

set_option maxRecDepth 100000 in
set_option maxHeartbeats 2000000 in
theorem each1_in (l Bn n₀ : Nat) (f t d : Int) (J Jx : List Dy → World → Prop) (B0 : Nat) (hJa : AbidesFrom B0 J)
    (hY : ∀ pre x W, J pre W → pre.length < 800 → YieldAt Fence.wide 8 Tryz.prog l (encD x) W fun e W' =>
      (e = .returned (.bool true) ∧ J (pre ++ [x]) W' ∧ KpB n₀ Bn W W') ∨ (e = .returned (.bool false) ∧ Jx (pre ++ [x]) W'))
    (W : World) (hBn : BoxAt W Bn (f, t, d)) (h0 : J [] W) :
    CallsIn Fence.wide 9 Tryz.prog 125 #[.func (.yield l) #[] #[], .pointer (some ⟨Bn, 0, none⟩)] W fun e W' => (∃ v, e = .returned v) ∧
      ((∃ ys : List Dy, vals ys = daysQ (f, t, d) ∧ J ys W') ∨ (∃ pre, True ∧ Jx pre W')) := by
  obtain ⟨c0, c1, c2⟩ := hBn.cell
  have CV := isValid_any f t d W
  cases h : okQ (f, t, d)
  · rw [h] at CV
    refine callsIn_of_wp Tryz.func125 rfl trivial ?_ rfl
    simp only [Tryz.ntmps125, List.size_toArray, List.length_cons, List.length_nil, Nat.reduceAdd, Nat.reduceSub, Array.replicate_succ, Array.replicate_zero, List.push_toArray, List.append_toArray, List.nil_append, List.cons_append]
    gi_wp2_with (gi_at_call 75; refine (callsIn_wide.2 CV).mono ?_; rintro e w' ⟨rfl, hb⟩)
    refine bodyPost_ret (results_none rfl _ _ _) rfl ?_
    exact ⟨⟨_, rfl⟩, .inl ⟨[], by rw [daysQ_no h]; rfl, abide_below hJa h0 hb⟩⟩
  · rw [h] at CV
    have hq := okQ_yes h
    have q0 : 0 ≤ f := hq.1
    have q1 : f ≤ t := hq.2.1
    have q2 : t < 36525 := hq.2.2.1
    have q3 : t - f < 800 := hq.2.2.2.1
    have q4 : 1 ≤ d := hq.2.2.2.2.1
    have q5 : d ≤ 127 := hq.2.2.2.2.2
    have hlen : lenQ (f, t, d) = (t - f + 1).toNat := rfl
    have HD := Lib.hid (daysQ_yes h)
    clear h hq
    refine callsIn_of_wp Tryz.func125 rfl trivial ?_ rfl
    simp only [Tryz.ntmps125, List.size_toArray, List.length_cons, List.length_nil, Nat.reduceAdd, Nat.reduceSub, Array.replicate_succ, Array.replicate_zero, List.push_toArray, List.append_toArray, List.nil_append, List.cons_append]
    gi_wp2_with (gi_at_call 75; refine (callsIn_wide.2 CV).mono ?_; rintro e w' ⟨rfl, hb⟩; have hBn2 := hBn.more hb; have c0' := hBn2.cell.1)
    gi_loopw [3] (fun i wr => ∃ (k : Nat) (pre : List Dy), k ≤ lenQ (f, t, d) ∧ i = .int .i64 (f + k) ∧ Hid (vals pre = daysTo (f, t, d) k) ∧ J pre wr ∧ BoxAt wr Bn (f, t, d)) (fun i _ => (t + 1 - intOf i).toNat)
    case atStart => exact ⟨0, [], Nat.zero_le _, by simp, Lib.hid rfl, abide_below hJa h0 hb, hBn2⟩
    case round =>
      clear CV hb hBn2 c0' c0 c1 c2 hBn h0
      obtain ⟨k, pre, hk, rfl, HP, hJ, hB⟩ := hrel
      obtain ⟨g0, g1, g2⟩ := hB.cell
      by_cases hlt : k < lenQ (f, t, d)
      · have x1 : 0 ≤ f + (k : Int) := by omega
        have x2 : f + (k : Int) < 36525 := by omega
        have x3 : f + (k : Int) ≤ t := by omega
        have hpl : pre.length < 800 := by
          have h1 := daysTo_len (f, t, d) k
          rw [← HP.out, vals_len] at h1
          omega
        have CW := Lib.hid (inRd_call hJa (pre := pre) (B := Bn) (p := (f, t, d)) (fun W => wk_any (f + k) W (by omega) (by omega)))
        have CH := Lib.hid (inRd_call hJa (pre := pre) (B := Bn) (p := (f, t, d)) (fun W => hasWd_any f t d (wkN (f + k)) W (by omega) (by omega) (wkN_lt _)))
        have hI : InRd J pre Bn (f, t, d) wr.drew := ⟨abide_below hJa hJ (Below.refl _ _).drew, hB.drew'⟩
        have g0' : ∀ x : Wd (InRd J pre Bn (f, t, d)), x.w.cell? ⟨Bn, 0, none⟩ = some (.int .i64 f) := fun x => x.ok.2.cell.1
        have g1' : ∀ x : Wd (InRd J pre Bn (f, t, d)), x.w.cell? ⟨Bn, 1, none⟩ = some (.int .i64 t) := fun x => x.ok.2.cell.2.1
        have g2' : ∀ x : Wd (InRd J pre Bn (f, t, d)), x.w.cell? ⟨Bn, 2, none⟩ = some (.int .i64 d) := fun x => x.ok.2.cell.2.2
        cases hw : wdB d (f + k)
        · rw [show d.toNat.testBit (wkN (f + k)) = false from hw] at CH
          have HN := Lib.hid (daysTo_miss (f, t, d) k hw)
          clear hw
          generalize wkN (f + k) = wk at *
          gi_wp2
          have hNe : Nonempty (Wd (InRd J pre Bn (f, t, d))) := ⟨⟨_, hI⟩⟩
          refine quietSIn (S := InRd J pre Bn (f, t, d)) rfl (by kernel_rfl) (by kernel_rfl) (hI) ?_
          repeat (first | gi_big_quiet_skip | (gi_big_quiet_want; gi_big_quiet_op; first | go_big_quiet_on | gi_big_quiet_call ((first | (gi_at_call 77; exact quiet_SIn (CW.out _ (Wd.ok _))) | (gi_at_call 76; exact quiet_SIn (CH.out _ (Wd.ok _)))))))
          refine wpQuietIn_nil ?_
          rintro W ⟨⟨_, hW⟩, rfl⟩
          gi_wp2
          go_roundw
          case rel => exact ⟨k + 1, pre, by omega, by congr 1; omega, Lib.hid (by rw [HP.out, HN.out]), hW.1, hW.2⟩
          case measure => simp [intOf]; omega
        · rw [show d.toNat.testBit (wkN (f + k)) = true from hw] at CH
          have HN := Lib.hid (daysTo_hit (f, t, d) k hw)
          clear hw
          have HY := Lib.hid hY
          clear hY
          generalize wkN (f + k) = wk at *
          gi_wp2
          gi_region_with (first | (gi_at_call 77; refine (CW.out _ hI).mono ?_; rintro e w2 ⟨rfl, hI2⟩; have k0 := hI2.2.cell.1; have k1 := hI2.2.cell.2.1; have k2 := hI2.2.cell.2.2) | (gi_at_call 76; refine (CH.out _ hI2).mono ?_; rintro e w3 ⟨rfl, hI3⟩; obtain ⟨fn, tmps, assign, body, hy, hR⟩ := HY.out pre ⟨f + k, x1, x2⟩ w3 hI3.1 hpl; dsimp only [encD] at hy) | (refine (yield_two hR).mono ?_; rintro e W3 ⟨b, rfl, hb1, hb2⟩))
          all_goals
            cases b
            · have hx := hb2 rfl
              gi_wp2
              refine bodyPost_ret (results_none rfl _ _ _) rfl ?_
              exact ⟨⟨_, rfl⟩, .inr ⟨_, hx⟩⟩
            · obtain ⟨hJ3, hk3⟩ := hb1 rfl
              gi_wp2
              go_roundw
              case rel => exact ⟨k + 1, pre ++ [⟨f + k, x1, x2⟩], by omega, by congr 1; omega, Lib.hid (by rw [vals_snoc, HP.out, HN.out]), hJ3, hk3.2.trans hI3.2⟩
              case measure => simp [intOf]; omega
      · have e : k = lenQ (f, t, d) := by omega
        subst e
        gi_wp2
        go_end0
        exact ⟨⟨_, rfl⟩, .inl ⟨pre, by rw [HP.out, HD.out], hJ⟩⟩

/-- the contract of the iterator's value -/
theorem each_stops (Bn n₀ : Nat) (p : Per) (w : World) (hBn : BoxAt w Bn p) :
    SeqStopsK Fence.wide 9 Tryz.prog 125 #[.pointer (some ⟨Bn, 0, none⟩)] encD (KpB n₀ Bn) (fun ys => vals ys = daysQ p) (fun _ => True) 800 w := fun l J Jx W hW hJ _ hY h0 =>
  each1_in l Bn n₀ p.1 p.2.1 p.2.2 J Jx W.heap.size hJ hY W (hBn.more hW) h0
set_option maxHeartbeats 1000000 in
/-- 'each(p)': the period is boxed; the function value captures the box -/
theorem each_any (p : Per) (w : World) : CallsIn Fence.wide 9 Tryz.prog 99 #[encQ p] w fun e w' => e = .returned (.func (.func 125) #[] #[.pointer (some ⟨w.heap.size, 0, none⟩)]) ∧ w' = w.alloc (.cells #[.int .i64 p.1, .int .i64 p.2.1, .int .i64 p.2.2] perT) := by
  refine callsIn_of_wp Tryz.func99 rfl trivial ?_ rfl
  simp only [Tryz.ntmps99, List.size_toArray, List.length_cons, List.length_nil, Nat.reduceAdd, Nat.reduceSub, Array.replicate_succ, Array.replicate_zero, List.push_toArray, List.append_toArray, List.nil_append, List.cons_append]
  gi_wp2
  go_ret
  exact ⟨rfl, rfl⟩

end Go.Proofs.YtdpcjafkahhecaaGreatDoor.Per

/- Words for memory: lists of numbers and of periods, as slices. -/
namespace Go.Proofs.YtdpcjafkahhecaaGreatDoor.Per
open Go.RowKit
set_option linter.unusedSimpArgs false
set_option linter.unusedVariables false

/-- the slice value v holds the numbers l, in memory that lies in w -/
def IntL (w : World) (v : Value) (l : List Int) : Prop :=
  ∃ A c, v = .slice A l.length c ∧ (l = [] ∨ ∃ b o, A = some ⟨b, o, none⟩ ∧ b < w.heap.size ∧ ∀ i (h : i < l.length), w.cell? ⟨b, o + i, none⟩ = some (.int .i64 l[i]))
theorem IntL.more {w w' : World} {v : Value} {l : List Int} (h : IntL w v l) (hb : Below w.heap.size w w') : IntL w' v l := by
  obtain ⟨A, c, rfl, h⟩ := h
  refine ⟨A, c, rfl, ?_⟩
  rcases h with h | ⟨b, o, rfl, hlt, hc⟩
  · exact .inl h
  · exact .inr ⟨b, o, rfl, Nat.lt_of_lt_of_le hlt hb.size, fun i hi => (hb.cell (p := ⟨b, o + i, none⟩) hlt).trans (hc i hi)⟩
theorem IntL.of_own {e : TypeId} {B : Nat} {w : World} {v : Value} {l : List Int} (h : w.ownsRow B e 1 v l.length (l.map (Value.int .i64))) : IntL w v l := by
  cases l with
  | nil =>
    rcases h.2 with ⟨rfl, _⟩ | ⟨g, cap, cur, rfl, _⟩
    · exact ⟨none, 0, rfl, .inl rfl⟩
    · exact ⟨_, cap, rfl, .inl rfl⟩
  | cons x r =>
    obtain ⟨g, cap, rfl, _, hlt⟩ := h.form (by simp)
    refine ⟨_, cap, rfl, .inr ⟨g, 0, rfl, hlt, fun i hi => ?_⟩⟩
    have := h.cells (g := g) rfl i (.int .i64 (x :: r)[i]) (by rw [List.getElem?_map, List.getElem?_eq_getElem hi]; rfl)
    have hadd : (⟨g, 0, none⟩ : Addr).add i = ⟨g, 0 + i, none⟩ := by unfold Addr.add; split <;> simp_all
    rw [← hadd]
    exact this
/-- the cells of periods, one behind the other -/
def cellsQ (l : List Per) : List Value := l.flatMap fun p => [.int .i64 p.1, .int .i64 p.2.1, .int .i64 p.2.2]
theorem cellsQ_at : ∀ (l : List Per) (i : Nat) (h : i < l.length), (cellsQ l)[i * 3]? = some (.int .i64 l[i].1) ∧ (cellsQ l)[i * 3 + 1]? = some (.int .i64 l[i].2.1) ∧ (cellsQ l)[i * 3 + 2]? = some (.int .i64 l[i].2.2)
  | [], i, h => by simp at h
  | x :: r, 0, h => by simp [cellsQ]
  | x :: r, i + 1, h => by
    have ih := cellsQ_at r i (by simpa using h)
    have e : cellsQ (x :: r) = .int .i64 x.1 :: .int .i64 x.2.1 :: .int .i64 x.2.2 :: cellsQ r := by simp [cellsQ]
    rw [e, show (i + 1) * 3 = i * 3 + 1 + 1 + 1 by omega, show i * 3 + 1 + 1 + 1 + 1 = (i * 3 + 1) + 1 + 1 + 1 by omega, show i * 3 + 1 + 1 + 1 + 2 = (i * 3 + 2) + 1 + 1 + 1 by omega]
    simp only [List.getElem?_cons_succ, List.getElem_cons_succ]
    exact ih
/-- the slice value v holds the periods l, in memory that lies in w -/
def PerL (w : World) (v : Value) (l : List Per) : Prop :=
  ∃ A c, v = .slice A l.length c ∧ (l = [] ∨ ∃ b o, A = some ⟨b, o, none⟩ ∧ b < w.heap.size ∧ ∀ i (h : i < l.length), w.cell? ⟨b, o + i * 3, none⟩ = some (.int .i64 l[i].1) ∧ w.cell? ⟨b, o + i * 3 + 1, none⟩ = some (.int .i64 l[i].2.1) ∧ w.cell? ⟨b, o + i * 3 + 2, none⟩ = some (.int .i64 l[i].2.2))
theorem PerL.more {w w' : World} {v : Value} {l : List Per} (h : PerL w v l) (hb : Below w.heap.size w w') : PerL w' v l := by
  obtain ⟨A, c, rfl, h⟩ := h
  refine ⟨A, c, rfl, ?_⟩
  rcases h with h | ⟨b, o, rfl, hlt, hc⟩
  · exact .inl h
  · exact .inr ⟨b, o, rfl, Nat.lt_of_lt_of_le hlt hb.size, fun i hi => ⟨(hb.cell (p := ⟨b, o + i * 3, none⟩) hlt).trans (hc i hi).1, (hb.cell (p := ⟨b, o + i * 3 + 1, none⟩) hlt).trans (hc i hi).2.1, (hb.cell (p := ⟨b, o + i * 3 + 2, none⟩) hlt).trans (hc i hi).2.2⟩⟩
theorem PerL.of_own {e : TypeId} {B : Nat} {w : World} {v : Value} {l : List Per} (h : w.ownsRow B e 3 v l.length (cellsQ l)) : PerL w v l := by
  cases l with
  | nil =>
    rcases h.2 with ⟨rfl, _⟩ | ⟨g, cap, cur, rfl, _⟩
    · exact ⟨none, 0, rfl, .inl rfl⟩
    · exact ⟨_, cap, rfl, .inl rfl⟩
  | cons x r =>
    obtain ⟨g, cap, rfl, _, hlt⟩ := h.form (by simp [cellsQ])
    have hadd : ∀ j, (⟨g, 0, none⟩ : Addr).add j = ⟨g, 0 + j, none⟩ := fun j => by unfold Addr.add; split <;> simp_all
    refine ⟨_, cap, rfl, .inr ⟨g, 0, rfl, hlt, fun i hi => ?_⟩⟩
    obtain ⟨a0, a1, a2⟩ := cellsQ_at (x :: r) i hi
    have h0 := h.cells (g := g) rfl _ _ a0
    have h1 := h.cells (g := g) rfl _ _ a1
    have h2 := h.cells (g := g) rfl _ _ a2
    rw [hadd] at h0 h1 h2
    exact ⟨h0, by rw [Nat.add_assoc]; exact h1, by rw [Nat.add_assoc]; exact h2⟩

/-- a row of numbers of the call's own -/
structure IOwn (e : TypeId) (B : Nat) (w : World) (v : Value) (l : List Int) : Prop where
  own : w.ownsRow B e 1 v l.length (l.map (Value.int .i64))
  base : B ≤ w.heap.size
theorem IOwn.nil {e : TypeId} {B : Nat} {w : World} (hB : B ≤ w.heap.size) : IOwn e B w (.slice none 0 0) [] := ⟨World.ownsRow_nil _ _ _ _, hB⟩
theorem IOwn.more {e : TypeId} {B : Nat} {w w' : World} {v : Value} {l : List Int} (h : IOwn e B w v l) (hb : Below w.heap.size w w') : IOwn e B w' v l := ⟨own_more h.own hb, Nat.le_trans h.base hb.size⟩
theorem IOwn.alloc {e : TypeId} {B : Nat} {w : World} {v : Value} {l : List Int} (h : IOwn e B w v l) (o : Obj) : IOwn e B (w.alloc o) v l := h.more (bel_alloc w o)
/-- a row of periods of the call's own -/
structure POwn (e : TypeId) (B : Nat) (w : World) (v : Value) (l : List Per) : Prop where
  own : w.ownsRow B e 3 v l.length (cellsQ l)
  base : B ≤ w.heap.size
theorem POwn.nil {e : TypeId} {B : Nat} {w : World} (hB : B ≤ w.heap.size) : POwn e B w (.slice none 0 0) [] := ⟨World.ownsRow_nil _ _ _ _, hB⟩
theorem POwn.more {e : TypeId} {B : Nat} {w w' : World} {v : Value} {l : List Per} (h : POwn e B w v l) (hb : Below w.heap.size w w') : POwn e B w' v l := ⟨own_more h.own hb, Nat.le_trans h.base hb.size⟩
theorem POwn.alloc {e : TypeId} {B : Nat} {w : World} {v : Value} {l : List Per} (h : POwn e B w v l) (o : Obj) : POwn e B (w.alloc o) v l := h.more (bel_alloc w o)

theorem info_int : (Tryz.prog.info? 3).map (fun i => (i.zero, i.size, i.bytes)) = some (some (.int .i64 0), 1, 8) := by kernel_rfl
section
/-- 'append(v, x)' for numbers: one way on -/
theorem wpList_iapp {B : Nat} {w : World} {ops : Array Oper} {rest : List Oper} {o : Oper} {a : Act} {Q : Exit → Act → World → Prop} (hgd : o.guard = none) (s x : Operand)
    (ho : o.op = .call { callee := .builtin .append, args := #[s, x], argTypes := #[110, 110] }) (v : Value) (l : List Int) (hs : a.eval s = v) (h0 : IOwn 3 B w v l)
    (b : Nat) (new : Int) (c : Nat) (hx : a.eval x = .slice (some ⟨b, 0, none⟩) 1 c) (hb : w.heap[b]? = some (.cells #[.int .i64 new] 3 (0, 0)))
    (hlim : l.length ≤ 1000000000)
    (h : ∀ v' w', IOwn 3 B w' v' (l ++ [new]) → Below B w w' → wpList Tryz.prog ops Q rest (a.put o.dst v') w') : wpList Tryz.prog ops Q (o :: rest) a w := by
  obtain ⟨i, hi, hz, hz1, hz2⟩ := info_parts info_int
  refine wpList_append_lies w hgd s x 110 ho B 3 i (.int .i64 0) 1 8 Tryz.underlying110 hi hz hz1 hz2 rfl (by omega) v l.length (l.map (Value.int .i64)) hs h0.own ⟨b, 0, none⟩ 1 c [.int .i64 new] hx
    rfl ?_ (by intro u hu; simp at hu; subst hu; rfl) (by omega) (by unfold maxLen; omega) (by omega) h0.base w.heap.size rfl ?_
  · exact World.news_of_block (cs := #[.int .i64 new]) hb
  · intro g cap w' hown hgrow _ _
    refine h _ _ ⟨?_, Nat.le_trans h0.base hgrow.size⟩ ((Below.refl B w).grown hgrow h0.base (own_below' h0.own))
    rw [List.map_append, List.length_append]
    exact hown
end

end Go.Proofs.YtdpcjafkahhecaaGreatDoor.Per

/- Walks of the three loops over the days of a period: Count, Days, Normal. -/
namespace Go.Proofs.YtdpcjafkahhecaaGreatDoor.Per
open Go.RowKit Go.Shelf
set_option linter.unusedSimpArgs false
set_option linter.unusedVariables false
attribute [local go_sem] Oper.semAt_some
attribute [local simp] wide_fn

/-- 'a block holds these cells' speaks of cells alone -/
theorem cells_own {β : Type} (B : Nat) (t : TypeId) (g : β → Array Value) : Own (fun s W => W.heap[B]? = some (.cells (g s) t (0, 0))) := fun s X Y row hs hg hrow =>
  (hg.block B (Array.getElem?_eq_some_iff.1 hs).1 (fun e' => by obtain ⟨o, ho, hc⟩ := hrow B e'.symm; rw [hs] at ho; cases ho; cases hc)).trans hs
theorem boxAt_own {β : Type} (B : Nat) (p : Per) : Own (fun (_ : β) W => BoxAt W B p) := cells_own B perT fun _ => #[.int .i64 p.1, .int .i64 p.2.1, .int .i64 p.2.2]
theorem zip_one (t : Array Value) (n : Nat) (v : Value) : Array.foldl (fun (t : Array Value) (x : Nat × Value) => t.setIfInBounds x.1 x.2) t (#[n].zip #[v]) = t.setIfInBounds n v := by simp
theorem BoxAt.set {W : World} {B B' : Nat} {p : Per} (h : BoxAt W B p) (hne : B ≠ B') (j : Nat) (u : Value) : BoxAt (W.setCell ⟨B', j, none⟩ u) B p := (Below.heap_setCell _ _ _ B hne).trans h

theorem BoxAt.not_row {W : World} {B : Nat} {p : Per} (h : BoxAt W B p) {e : TypeId} (hte : perT ≠ e) {base size k : Nat} {v : Value} {xs : List Value} (hr : W.ownsRow base e size v k xs) : some B ≠ v.ownBlock := by
  rcases hr.2 with ⟨rfl, _⟩ | ⟨g, cap, cur, rfl, _, hgb, _⟩
  · simp [Value.ownBlock]
  · intro e'
    obtain rfl : B = g := by simpa [Value.ownBlock] using e'
    have := (show W.heap[B]? = _ from h).symm.trans hgb
    simp at this
    exact hte this.2

set_option maxRecDepth 100000 in
set_option maxHeartbeats 2000000 in
theorem days_in (p : Per) (w : World) : CallsIn Fence.wide 10 Tryz.prog 61 #[encQ p] w fun e W' => ∃ v, e = .returned v ∧ W'.ownsRow w.heap.size 3 1 v (daysQ p).length ((daysQ p).map (Value.int .i64)) ∧ Below w.heap.size w W' := by
  obtain ⟨i0, hi, hz0, hz1, hz2⟩ := info_parts info_int
  refine callsIn_of_wp_marks Tryz.func61 rfl trivial ?_ rfl
  simp only [Tryz.ntmps61, List.size_toArray, List.length_cons, List.length_nil, Nat.reduceAdd, Nat.reduceSub, Array.replicate_succ, Array.replicate_zero, List.push_toArray, List.append_toArray, List.nil_append, List.cons_append]
  gi_wp2_with (gi_at_call 99; refine (each_any p _).mono ?_; rintro e w' ⟨rfl, rfl⟩)
  obtain ⟨W0, hW0⟩ : ∃ W0, W0 = ((w.alloc (.cells #[.int .i64 p.1, .int .i64 p.2.1, .int .i64 p.2.2] perT)).alloc (.cells #[.slice none 0 0] 110)).alloc (.cells #[.int .i64 p.1, .int .i64 p.2.1, .int .i64 p.2.2] perT) := ⟨_, rfl⟩
  have hsz : W0.heap.size = w.heap.size + 3 := by rw [hW0]; simp
  have bP : BoxAt W0 (w.heap.size + 1 + 1) p := by
    rw [hW0]
    have h := heap_alloc_new ((w.alloc (.cells #[.int .i64 p.1, .int .i64 p.2.1, .int .i64 p.2.2] perT)).alloc (.cells #[.slice none 0 0] 110)) (.cells #[.int .i64 p.1, .int .i64 p.2.1, .int .i64 p.2.2] perT)
    simp only [World.size_alloc] at h
    exact h
  have bN : Boxed W0 (w.heap.size + 1) 110 (.slice none 0 0) := by
    rw [hW0]
    have h := Boxed.new (w.alloc (.cells #[.int .i64 p.1, .int .i64 p.2.1, .int .i64 p.2.2] perT)) 110 (.slice none 0 0)
    simp only [World.size_alloc] at h
    exact h.alloc _
  have hB0 : Below w.heap.size w W0 := by
    rw [hW0]
    exact (((Below.refl _ w).alloc (Nat.le_refl _) _).alloc (by simp) _).alloc (by simp; omega) _
  rw [show ((w.alloc (.cells #[.int .i64 p.1, .int .i64 p.2.1, .int .i64 p.2.2] perT)).alloc (.cells #[.slice none 0 0] 110)).alloc (.cells #[.int .i64 p.1, .int .i64 p.2.1, .int .i64 p.2.2] perT) = W0 from hW0.symm]
  clear hW0
  refine wpIn_rangeFunc_ownG rfl (by omega) (gf := 125) (lb := #[.pointer (some ⟨w.heap.size + 1 + 1, 0, none⟩)]) rfl trivial (enters_of Tryz.func125 (by kernel_rfl) rfl)
    (each_stops (w.heap.size + 1 + 1) w.heap.size p W0 bP) kp_t (kp_b (by omega) (by omega)) (Below.refl _ _) (fun _ => rfl)
    (fun pre W => ((∃ v, Boxed W (w.heap.size + 1) 110 v ∧ W.ownsRow w.heap.size 3 1 v (vals pre).length ((vals pre).map (Value.int .i64)) ∧ True) ∧ BoxAt W (w.heap.size + 1 + 1) p) ∧ Below w.heap.size w W)
    (fun _ _ _ => False)
    (OwnFrom.and (OwnFrom.and (Own.from (holdsRow_own w.heap.size (w.heap.size + 1) 110 3 1 (fun pre : List Dy => (vals pre).length) (fun pre => (vals pre).map (Value.int .i64)) (fun _ _ => True)) _) (Own.from (boxAt_own _ p) _)) (ownFrom_below (Nat.le_refl _) (by omega)))
    (fun _ _ _ _ _ hs _ _ => hs)
    ⟨⟨⟨_, bN, World.ownsRow_nil _ _ _ _, trivial⟩, bP⟩, hB0⟩
    (fun x => { tmps := #[encQ p, .pointer (some ⟨w.heap.size, 0, none⟩), .slice none 0 0, .pointer (some ⟨w.heap.size + 1, 0, none⟩), .int .i64 x.1, encQ p, .func (.func 125) #[] #[.pointer (some ⟨w.heap.size + 1 + 1, 0, none⟩)], .int .i64 x.1, undef, undef, undef, undef, undef], defers := [] }) ?assign ?body ?done ?stop
  case assign =>
    intro l x W K hK
    dsimp only [encD]
    rw [zip_one]
    gi_wp2
    exact hK
  case body =>
    rintro l pre x W ⟨⟨⟨v, hv, hrow, _⟩, hbp⟩, hB⟩ hlt
    have hc := hv.cell
    have hpl : (vals pre).length < 800 := by rw [vals_len]; exact hlt
    have hle : w.heap.size ≤ w.heap.size + 1 := by omega
    gi_wp2_with (gi_at_builtin; refine wpListIn_append_own _ rfl _ _ 110 rfl w.heap.size 3 i0 (.int .i64 0) 1 8 Tryz.underlying110 hi hz0 hz1 hz2 rfl (by decide) _ _ _ rfl (hrow.alloc _) ⟨W.heap.size, 0, none⟩ 1 1 [.int .i64 x.1] rfl rfl (cell_one_new _ _ _) (by simp [Value.oneCell']) (by unfold maxLen; omega) (by omega) (by have := hB.size; simp; omega) ?_; intro v' w1 hown' hgrow _; obtain ⟨g', cap', rfl⟩ := ownsRow_succ hown'; obtain ⟨hv1, hv2, hr2, hk2, hb2⟩ := hv.appended (by decide) hrow hB.size hle hown' hgrow; have hP1 : BoxAt w1 (w.heap.size + 1 + 1) p := (hgrow.block _ (Nat.lt_of_lt_of_le hbp.lt (by simp)) (hbp.not_row (by decide) hrow)).trans ((bel_alloc W _).block _ hbp.lt |>.trans hbp); have hc1 := hv1.cell; have hf1 := hv1.frozen)
    refine ⟨hk2.from _, ⟨hb2, (hP1.set (by simp) 0 _).trans hbp.symm⟩, ⟨⟨_, hv2, ?_, trivial⟩, hP1.set (by simp) 0 _⟩, hB.trans hb2⟩
    rw [vals_snoc]
    simpa using hr2
  case done =>
    rintro D ys W hD hys ⟨⟨⟨v, hv, hrow, _⟩, hbp⟩, hB⟩ hK
    have hc := hv.cell
    gi_wp2
    refine ⟨by simp, .inl ⟨_, _, rfl, run_takeDeferred hK, ?_⟩⟩
    rw [hys] at hrow
    exact ⟨_, results_tmp rfl _ _ _, v, rfl, ownsRow_putObj hrow _ hK rfl, hB.trans (belowK_b (w := w) (Nat.le_refl _) W D _ _ (by omega) hK rfl rfl)⟩
  case stop =>
    rintro D c pre W _ _ h _
    exact h.elim

end Go.Proofs.YtdpcjafkahhecaaGreatDoor.Per

/- Walks of calendar.Day and calendar.Date. -/
namespace Go.Proofs.YtdpcjafkahhecaaGreatDoor
open Go.RowKit
set_option linter.unusedSimpArgs false
set_option linter.unusedVariables false

end Go.Proofs.YtdpcjafkahhecaaGreatDoor

/- Walks of the reference's Length, Day and Date. -/
namespace Go.Proofs.YtdpcjafkahhecaaGreatDoor
open Go.RowKit
set_option linter.unusedSimpArgs false
set_option linter.unusedVariables false

set_option maxHeartbeats 1000000 in
theorem rlen_any (y m : Int) (w : World) (h0 : 0 ≤ y) (h1 : y ≤ 3000) : Calls Tryz.prog 130 #[.int .i64 y, .int .i64 m] w fun e w' => e = .returned (.int .i64 (lenP y m)) ∧ w = w' := by
  by_cases c : m = 4 ∨ m = 6 ∨ m = 9 ∨ m = 11
  · have HR : Hid (lenP y m = 30) := Lib.hid (by rw [lenP, if_pos c])
    rcases c with rfl | rfl | rfl | rfl
    all_goals
      go_enter Tryz.func130, Tryz.ntmps130
      go_wp2
      go_ret
      exact ⟨by rw [HR.out]; rfl, rfl⟩
  have a1 : (m == 4) = false := by rw [beq_eq_false_iff_ne]; omega
  have a2 : (m == 6) = false := by rw [beq_eq_false_iff_ne]; omega
  have a3 : (m == 9) = false := by rw [beq_eq_false_iff_ne]; omega
  have a4 : (m == 11) = false := by rw [beq_eq_false_iff_ne]; omega
  by_cases c2 : m = 2
  · subst c2
    by_cases c3 : y % 4 = 0
    · have HR : Hid (lenP y 2 = 29) := Lib.hid (by simp [lenP, c3])
      go_enter Tryz.func130, Tryz.ntmps130
      go_wp2
      go_ret
      exact ⟨by rw [HR.out]; rfl, rfl⟩
    · have HR : Hid (lenP y 2 = 28) := Lib.hid (by simp [lenP, c3])
      go_enter Tryz.func130, Tryz.ntmps130
      go_wp2
      go_ret
      exact ⟨by rw [HR.out]; rfl, rfl⟩
  · have HR : Hid (lenP y m = 31) := Lib.hid (by rw [lenP, if_neg c, if_neg c2])
    have a5 : (m == 2) = false := by rw [beq_eq_false_iff_ne]; exact c2
    clear c c2
    go_enter Tryz.func130, Tryz.ntmps130
    go_wp2
    go_ret
    exact ⟨by rw [HR.out]; rfl, rfl⟩

set_option maxRecDepth 100000 in
set_option maxHeartbeats 1000000 in
theorem rdate_any (n : Int) (w : World) : Calls Tryz.prog 122 #[.int .i64 n] w fun e w' => e = .returned (.tuple #[.int .i64 (dateR n).1, .int .i64 (dateR n).2.1, .int .i64 (dateR n).2.2]) ∧ w = w' := by
  by_cases hn : 0 ≤ n ∧ n < 36525
  · go_enter Tryz.func122, Tryz.ntmps122
    go_wp2
    go_loop [0, 5, 6] (fun vr vy vm => ∃ (y m r : Int), 2000 ≤ y ∧ y ≤ 2099 ∧ 1 ≤ m ∧ m ≤ 12 ∧ 0 ≤ r ∧ r ≤ 36525 ∧ vy = .int .i64 y ∧ vm = .int .i64 m ∧ vr = .int .i64 r ∧ Hid (n = ysP y + befP y m + r)) (fun vr _ _ => (intOf vr).toNat)
    case atStart => exact ⟨2000, 1, n, by omega, by omega, by omega, by omega, by omega, by omega, rfl, rfl, rfl, Lib.hid (by rw [ys_first, bef_one]; omega)⟩
    case round =>
      obtain ⟨y, m, r, y0, y1, m0, m1, r0, r1, rfl, rfl, rfl, HK⟩ := hrel
      obtain ⟨x, hx⟩ : ∃ x, Hid (x = lenP y m) := ⟨_, Lib.hid rfl⟩
      have hb2 := len_range y m
      rw [← hx.out] at hb2
      have CX : Hid (∀ w, Calls Tryz.prog 130 #[.int .i64 y, .int .i64 m] w fun e w' => e = .returned (.int .i64 x) ∧ w = w') := Lib.hid (fun w => by rw [hx.out]; exact rlen_any y m w (by omega) (by omega))
      by_cases hr : x ≤ r
      · have HN := Lib.hid (bef_next y m m0 m1)
        by_cases hm : m = 12
        · have HK2 : Hid (n = ysP (y + 1) + befP (y + 1) 1 + (r - x)) := Lib.hid (by
            have a := HK.out
            have b := HN.out
            have c := ys_next y
            have e := hx.out
            have f := bef_one (y + 1)
            subst hm
            have g : befP y 13 = befP y 12 + lenP y 12 := b
            omega)
          have hy2 : y + 1 ≤ 2099 := by
            have a := HK2.out
            have f := bef_one (y + 1)
            by_cases c : y + 1 ≤ 2099
            · exact c
            · have := ys_mono 2100 (y + 1) (by omega)
              rw [ys_last] at this
              omega
          subst hm
          go_wp2_with (go_at_call 130; refine (CX.out _).mono ?_; rintro e w' ⟨rfl, rfl⟩)
          go_round
          case rel => exact ⟨y + 1, 1, r - x, by omega, hy2, by omega, by omega, by omega, by omega, rfl, rfl, rfl, HK2⟩
          case measure => simp [intOf]; omega
        · have HK2 : Hid (n = ysP y + befP y (m + 1) + (r - x)) := Lib.hid (by
            have a := HK.out
            have b := HN.out
            have e := hx.out
            omega)
          have hm2 : (m + 1 == 13) = false := by rw [beq_eq_false_iff_ne]; omega
          have hm3 : m ≤ 11 := by omega
          clear hm
          go_wp2_with (go_at_call 130; refine (CX.out _).mono ?_; rintro e w' ⟨rfl, rfl⟩)
          go_round
          case rel => exact ⟨y, m + 1, r - x, by omega, by omega, by omega, by omega, by omega, by omega, rfl, rfl, rfl, HK2⟩
          case measure => simp [intOf]; omega
      · have HR : Hid (dateR n = (y, m, r + 1)) := Lib.hid (by
          have a := hx.out
          have b := HK.out
          exact date_of (ok_mk (by omega)) (by unfold numP; omega))
        go_wp2_with (go_at_call 130; refine (CX.out _).mono ?_; rintro e w' ⟨rfl, rfl⟩)
        go_ret3
        exact ⟨by rw [HR.out]; rfl, rfl⟩
  · have HR : Hid (dateR n = (0, 0, 0)) := Lib.hid (date_out (by simpa [isDayB] using hn))
    by_cases h0 : n < 0
    · clear hn
      go_enter Tryz.func122, Tryz.ntmps122
      go_wp2
      go_ret3
      exact ⟨by rw [HR.out]; rfl, rfl⟩
    · have h1 : 36525 ≤ n := by omega
      clear hn
      go_enter Tryz.func122, Tryz.ntmps122
      go_wp2
      go_ret3
      exact ⟨by rw [HR.out]; rfl, rfl⟩

end Go.Proofs.YtdpcjafkahhecaaGreatDoor

/- Walks of Print and Clock, beside the reference's; of the tests and numbers of digits. -/
namespace Go.Proofs.YtdpcjafkahhecaaGreatDoor
open Go.RowKit
set_option linter.unusedSimpArgs false
set_option linter.unusedVariables false

theorem mk_app (a b : List UInt8) : (⟨a.toArray⟩ : ByteArray) ++ ⟨b.toArray⟩ = ⟨(a ++ b).toArray⟩ := by
  apply ByteArray.ext
  simp [ByteArray.data_append]
theorem rtwo_acc (n : Int) (w w1 : World) (h0 : 0 ≤ n) (h1 : n ≤ 99) (hb : Below w.heap.size w w1) :
    Calls Tryz.prog 123 #[.int .i64 n] w1 fun e w' => e = .returned (.string ⟨(twoL n).toArray⟩) ∧ Below w.heap.size w w' :=
  (rtwo_any n w1 h0 h1).mono (by rintro e w' ⟨rfl, h⟩; exact ⟨rfl, hb.trans (h.mono hb.size)⟩)

set_option maxHeartbeats 1000000 in
theorem rprint_any (n : Int) (w : World) : Calls Tryz.prog 97 #[.int .i64 n] w fun e w' => e = .returned (.string ⟨(printL n).toArray⟩) ∧ Below w.heap.size w w' := by
  have hb : Below w.heap.size w w := Below.refl _ _
  cases hd : isDayB n
  · have HR : Hid (printL n = []) := Lib.hid (by simp [printL, hd])
    have CD : Hid (∀ w, Calls Tryz.prog 122 #[.int .i64 n] w fun e w' => e = .returned (.tuple #[.int .i64 0, .int .i64 0, .int .i64 0]) ∧ w = w') := Lib.hid (fun w => by have h := rdate_any n w; rw [date_out hd] at h; exact h)
    go_enter Tryz.func97, Tryz.ntmps97
    go_wp2_with (go_at_call 122; refine (CD.out _).mono ?_; rintro e w' ⟨rfl, rfl⟩)
    go_ret
    exact ⟨by rw [HR.out]; rfl, hb⟩
  · have hD := (date_in hd).1
    obtain ⟨y, m, d, hR⟩ : ∃ y m d, dateR n = (y, m, d) := ⟨_, _, _, rfl⟩
    rw [hR] at hD
    have CD : Hid (∀ w, Calls Tryz.prog 122 #[.int .i64 n] w fun e w' => e = .returned (.tuple #[.int .i64 y, .int .i64 m, .int .i64 d]) ∧ w = w') := Lib.hid (fun w => by have h := rdate_any n w; rw [hR] at h; exact h)
    have HR : Hid (printL n = dateL y m d) := Lib.hid (by rw [printL, if_pos hd, hR])
    obtain ⟨y0, y1, m0, m1, d0, d1⟩ : 2000 ≤ y ∧ y ≤ 2099 ∧ 1 ≤ m ∧ m ≤ 12 ∧ 1 ≤ d ∧ d ≤ lenP y m := ok_yes hD
    have hl := len_range y m
    clear hR hD
    have d2 : d ≤ 31 := by omega
    have hy : (y == 0) = false := by rw [beq_eq_false_iff_ne]; omega
    clear hl d1
    go_enter Tryz.func97, Tryz.ntmps97
    go_wp2_with (first | (go_at_call 123; refine (rtwo_acc _ w _ (by omega) (by omega) hb).mono ?_; rintro e w' ⟨rfl, hb⟩) | (go_at_call 122; refine (CD.out _).mono ?_; rintro e w' ⟨rfl, rfl⟩))
    go_ret
    exact ⟨by rw [HR.out]; simp only [dateL, ← mk_app]; rfl, hb⟩
end Go.Proofs.YtdpcjafkahhecaaGreatDoor

/- Walks of digits and Print. -/
namespace Go.Proofs.YtdpcjafkahhecaaGreatDoor.Per
open Go.RowKit
set_option linter.unusedSimpArgs false
set_option linter.unusedVariables false

/-- the digits of the weekdays, of the first k -/
def digTo (d k : Nat) : List UInt8 := ((List.range k).filter fun i => d.testBit i).map fun i => UInt8.ofNat (49 + i)
def digL (d : Int) : List UInt8 := digTo d.toNat 7
theorem print_len10 (n : Int) : (printL n).length ≤ 10 := by
  unfold printL
  split
  · simp [dateL, twoL]
  · simp
/-- a period as text -/
def perL (p : Per) : List UInt8 := if okQ p then printL p.1 ++ [47] ++ printL p.2.1 ++ [47] ++ digL p.2.2 else []
end Go.Proofs.YtdpcjafkahhecaaGreatDoor.Per

/- Walk of checkTimes. -/
namespace Go.Proofs.YtdpcjafkahhecaaGreatDoor
open Go.RowKit Go.Shelf
set_option linter.unusedSimpArgs false
set_option linter.unusedVariables false

def dayW : ByteArray := ⟨#[100, 97, 121, 32]⟩
/-- the first day whose times are not ordered -/
def badD (l : List Air) (lg : List Lg) : List Int → List Flt
  | [] => []
  | d :: r => if ordT true 0 (timL l lg d) then badD l lg r else [(13, dayW ++ ⟨(printL d).toArray⟩)]
def timF (l : List Air) (f : FV) : List Flt := badD l f.lg (Per.daysQ (f.pf, f.pt, f.pd))
theorem badD_at {l : List Air} {lg : List Lg} {D : List Int} {k : Nat} (h : k < D.length) : badD l lg (D.drop k) = if ordT true 0 (timL l lg D[k]) then badD l lg (D.drop (k + 1)) else [(13, dayW ++ ⟨(printL D[k]).toArray⟩)] := by
  rw [List.drop_eq_getElem_cons h]
  rfl
theorem days_bd {q : Int × Int × Int} {d : Int} (h : d ∈ Per.daysQ q) : 0 ≤ d ∧ d < 36525 := by
  have h1 := (Per.hasQ_iff _ _).1 ((Per.daysQ_mem _ _).1 h)
  have h2 := Per.okQ_yes h1.1
  omega
theorem pdays_any (a b c : Int) (w : World) : Calls Tryz.prog 61 #[.agg #[.int .i64 a, .int .i64 b, .int .i64 c]] w fun e W' => ∃ v, e = .returned v ∧ Per.IntL W' v (Per.daysQ (a, b, c)) ∧ Below w.heap.size w W' :=
  (callsIn_wide.1 (Per.days_in (a, b, c) w)).mono (by rintro e w' ⟨v, rfl, h, hb⟩; exact ⟨v, rfl, .of_own h, hb⟩)

end Go.Proofs.YtdpcjafkahhecaaGreatDoor
