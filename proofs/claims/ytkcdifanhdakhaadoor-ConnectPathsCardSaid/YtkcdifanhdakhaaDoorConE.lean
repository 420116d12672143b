/- The examples of the laws of connections, Same, far, knows. -/
import Derived.Test.YtkcdifanhdakhaaDoorConV
import Derived.Test.YtkcdifanhdakhaaDoorConK
import Derived.Test.YtkcdifanhdakhaaDoorConQ
import Derived.Test.YtkcdifanhdakhaaDoorConM
import Derived.Test.YtkcdifanhdakhaaDoorConA
import Derived.BigQuiet
import Derived.Deep.LoopGhost
import Derived.Test.YtkcdifanhdakhaaDoorConL
import Derived.Test.YtkcdifanhdakhaaDoorPlaH
/- The examples of the laws of connections: plain facts. -/
namespace Go.Proofs.YtkcdifanhdakhaaDoor.Con
open Go.RowKit Go.Shelf
set_option linter.unusedSimpArgs false
set_option linter.unusedVariables false

def kF1 : Sg := ⟨⟨#[66, 65]⟩, 1, 0, ⟨#[74, 70, 75]⟩, ⟨#[76, 72, 82]⟩, 100, 500⟩
def kF2 : Sg := ⟨⟨#[66, 65]⟩, 2, 0, ⟨#[76, 72, 82]⟩, ⟨#[67, 68, 71]⟩, 560, 600⟩
def kF3 : Sg := ⟨⟨#[66, 65]⟩, 2, 0, ⟨#[76, 72, 82]⟩, ⟨#[67, 68, 71]⟩, 559, 600⟩
def kF4 : Sg := ⟨⟨#[66, 65]⟩, 3, 0, ⟨#[74, 70, 75]⟩, ⟨#[67, 68, 71]⟩, 100, 600⟩
def kF5 : Sg := ⟨⟨#[66, 65]⟩, 2, 0, ⟨#[76, 71, 87]⟩, ⟨#[67, 68, 71]⟩, 559, 600⟩
def kS : List Sg := [kF1, kF2, kF3, kF4]
def kC : List Cn := [⟨⟨#[76, 72, 82]⟩, noB, noB, 45⟩, ⟨noB, ⟨#[66, 65]⟩, ⟨#[66, 65]⟩, 30⟩]
def kX : List Cn := [⟨⟨#[76, 72, 82]⟩, noB, noB, 2000⟩]
def kA : List Air := [⟨⟨#[74, 70, 75]⟩, ⟨#[78, 89, 67]⟩, ⟨#[85, 83]⟩, 0, none, 0, []⟩, ⟨⟨#[76, 72, 82]⟩, ⟨#[76, 79, 78]⟩, ⟨#[71, 66]⟩, 0, none, 0, []⟩, ⟨⟨#[67, 68, 71]⟩, ⟨#[80, 65, 82]⟩, ⟨#[70, 82]⟩, 0, none, 0, []⟩, ⟨⟨#[76, 71, 87]⟩, ⟨#[76, 79, 78]⟩, ⟨#[71, 66]⟩, 0, none, 0, []⟩]
def kW : ByteArray := ⟨#[99, 111, 110, 110, 101, 99, 116, 32, 48]⟩
theorem k_min1 : minC kC ⟨#[76, 72, 82]⟩ ⟨#[66, 65]⟩ ⟨#[66, 65]⟩ = 30 := by decide +kernel
theorem k_min2 : minC kC ⟨#[76, 72, 82]⟩ ⟨#[66, 65]⟩ ⟨#[65, 70]⟩ = 45 := by decide +kernel
theorem k_fit1 : fitB [] kF1 kF2 = true := by decide +kernel
theorem k_fit2 : fitB [] kF1 kF3 = false := by decide +kernel
theorem k_con : conF kX 1 = [(2, kW)] := by decide +kernel
theorem k_pth : pathsP [] kS ⟨#[74, 70, 75]⟩ ⟨#[67, 68, 71]⟩ 2 = [[3], [0, 1]] := by decide +kernel
theorem k_cmp : cfP kS [3] [0, 1] < 0 := by decide +kernel
def kP (A : Option Addr) : PV := ⟨A, 4, kA, none, 0, []⟩
theorem k_val1 (A : Option Addr) : valP (kP A) [] [kF1, kF2] = 0 := (show valP (kP A) [] [kF1, kF2] = valP (kP none) [] [kF1, kF2] from rfl).trans (by decide +kernel)
theorem k_val2 (A : Option Addr) : valP (kP A) [] [kF1, kF5] = 13 := (show valP (kP A) [] [kF1, kF5] = valP (kP none) [] [kF1, kF5] from rfl).trans (by decide +kernel)
theorem k_okV (A : Option Addr) : OkV (kP A) := ⟨(show 4 ≤ 40 by omega), by show ∀ a ∈ kA, a.shs.length ≤ 300; decide⟩
theorem k_tm : ∀ s ∈ kS, tmB s := by
  intro s hs
  simp only [kS, List.mem_cons, List.not_mem_nil, or_false] at hs
  rcases hs with rfl | rfl | rfl | rfl <;> (unfold tmB; decide)
theorem k_tm5 : tmB kF5 := by unfold tmB; decide
theorem k_okC : ∀ c ∈ kX, OkC c := by
  intro c hc
  simp only [kX, List.mem_cons, List.not_mem_nil, or_false] at hc
  subst hc
  exact ⟨show 3 ≤ maxLen by decide, show 0 ≤ maxLen by decide, show 0 ≤ maxLen by decide⟩
theorem k_sz : ∀ s ∈ kS, s.f.size ≤ maxLen ∧ s.t.size ≤ maxLen := by
  intro s hs
  simp only [kS, List.mem_cons, List.not_mem_nil, or_false] at hs
  rcases hs with rfl | rfl | rfl | rfl <;> exact ⟨show 3 ≤ maxLen by decide, show 3 ≤ maxLen by decide⟩
/-- the journeys of the example, in order -/
theorem k_paths {w' : World} {v : Value} {er : Int} (h : PathsR [] kS ⟨#[74, 70, 75]⟩ ⟨#[67, 68, 71]⟩ 2 w' v er) : er = 0 ∧ PthL w' v [[3], [0, 1]] := by
  unfold PathsR at h
  rw [k_pth, if_neg (by omega), if_neg (by decide)] at h
  obtain ⟨he, ps, ps', hl, hs⟩ := h
  refine ⟨he, ps', ?_, hs.row, hs.at'⟩
  have hpm : (ps'.map (·.l)).Perm [[3], [0, 1]] := by rw [← hl]; exact hs.perm.map _
  have hpo : (ps'.map (·.l)).Pairwise fun a b => ¬ cfP kS b a < 0 := List.pairwise_map.2 hs.ord
  generalize ps'.map (·.l) = L at hpm hpo
  have hlen := hpm.length_eq
  match L, hlen with
  | [a, b], _ =>
    have ha : a ∈ [[3], [0, 1]] := hpm.subset (by simp)
    have hb : b ∈ [[3], [0, 1]] := hpm.subset (by simp)
    have hnd : ([a, b] : List (List Nat)).Nodup := hpm.nodup_iff.2 (by decide)
    simp only [List.mem_cons, List.not_mem_nil, or_false] at ha hb
    rcases ha with rfl | rfl <;> rcases hb with rfl | rfl
    · exact absurd hnd (by decide)
    · rfl
    · have := List.rel_of_pairwise_cons hpo (List.mem_singleton.2 rfl)
      exact absurd k_cmp this
    · exact absurd hnd (by decide)
theorem k_airL (w : World) : AirL (w.alloc (.cells #[.string ⟨#[74, 70, 75]⟩, .string ⟨#[78, 89, 67]⟩, .string ⟨#[85, 83]⟩, .int .i64 0, .slice none 0 0, .string ⟨#[76, 72, 82]⟩, .string ⟨#[76, 79, 78]⟩, .string ⟨#[71, 66]⟩, .int .i64 0, .slice none 0 0, .string ⟨#[67, 68, 71]⟩, .string ⟨#[80, 65, 82]⟩, .string ⟨#[70, 82]⟩, .int .i64 0, .slice none 0 0, .string ⟨#[76, 71, 87]⟩, .string ⟨#[76, 79, 78]⟩, .string ⟨#[71, 66]⟩, .int .i64 0, .slice none 0 0] airT)) (some ⟨w.heap.size, 0, none⟩) kA := by
  refine .inr ⟨w.heap.size, 0, rfl, by simp, fun i a hi => ?_⟩
  have hg : ∀ j v, (#[.string ⟨#[74, 70, 75]⟩, .string ⟨#[78, 89, 67]⟩, .string ⟨#[85, 83]⟩, .int .i64 0, .slice none 0 0, .string ⟨#[76, 72, 82]⟩, .string ⟨#[76, 79, 78]⟩, .string ⟨#[71, 66]⟩, .int .i64 0, .slice none 0 0, .string ⟨#[67, 68, 71]⟩, .string ⟨#[80, 65, 82]⟩, .string ⟨#[70, 82]⟩, .int .i64 0, .slice none 0 0, .string ⟨#[76, 71, 87]⟩, .string ⟨#[76, 79, 78]⟩, .string ⟨#[71, 66]⟩, .int .i64 0, .slice none 0 0] : Array Value)[j]? = some v → (w.alloc (.cells #[.string ⟨#[74, 70, 75]⟩, .string ⟨#[78, 89, 67]⟩, .string ⟨#[85, 83]⟩, .int .i64 0, .slice none 0 0, .string ⟨#[76, 72, 82]⟩, .string ⟨#[76, 79, 78]⟩, .string ⟨#[71, 66]⟩, .int .i64 0, .slice none 0 0, .string ⟨#[67, 68, 71]⟩, .string ⟨#[80, 65, 82]⟩, .string ⟨#[70, 82]⟩, .int .i64 0, .slice none 0 0, .string ⟨#[76, 71, 87]⟩, .string ⟨#[76, 79, 78]⟩, .string ⟨#[71, 66]⟩, .int .i64 0, .slice none 0 0] airT)).cell? ⟨w.heap.size, j, none⟩ = some v := fun j v h => (cells_new w _ airT j).trans h
  have hlt := (List.getElem?_eq_some_iff.1 hi).1
  have h2 : i = 0 ∨ i = 1 ∨ i = 2 ∨ i = 3 := by simp [kA] at hlt; omega
  rcases h2 with rfl | rfl | rfl | rfl
  all_goals
    simp [kA] at hi
    subst hi
  · exact ⟨hg 0 _ rfl, hg 1 _ rfl, hg 2 _ rfl, hg 3 _ rfl, hg 4 _ rfl, .inl rfl⟩
  · exact ⟨hg 5 _ rfl, hg 6 _ rfl, hg 7 _ rfl, hg 8 _ rfl, hg 9 _ rfl, .inl rfl⟩
  · exact ⟨hg 10 _ rfl, hg 11 _ rfl, hg 12 _ rfl, hg 13 _ rfl, hg 14 _ rfl, .inl rfl⟩
  · exact ⟨hg 15 _ rfl, hg 16 _ rfl, hg 17 _ rfl, hg 18 _ rfl, hg 19 _ rfl, .inl rfl⟩
end Go.Proofs.YtkcdifanhdakhaaDoor.Con

/- Walks of the reference's Same of journeys, where they are the same, and of far. -/
namespace Go.Proofs.YtkcdifanhdakhaaDoor.Con
open Go.RowKit Go.Shelf
set_option linter.unusedSimpArgs false
set_option linter.unusedVariables false

set_option maxRecDepth 100000 in
set_option maxHeartbeats 8000000 in
theorem same_any (v1 v2 : Value) (L : List (List Nat)) (w : World) (h1 : PthL w v1 L) (h2 : PthL w v2 L) (hn : L.length ≤ 10000) (hm : ∀ x ∈ L, x.length ≤ 1000) :
    Calls Tryd.prog 9 #[v1, v2] w fun e w' => e = .returned (.bool true) ∧ Below w.heap.size w w' := by
  obtain ⟨ps, hp, r1, a1⟩ := h1
  obtain ⟨qs, hq, r2, a2⟩ := h2
  have hl : qs.length = ps.length := by rw [← List.length_map (f := (·.l)), hq, ← hp, List.length_map]
  have hpn : ps.length ≤ 10000 := by have := congrArg List.length hp; rw [List.length_map] at this; omega
  obtain ⟨A1, c1, rfl, _⟩ := id r1
  obtain ⟨A2, c2, rfl, _⟩ := id r2
  rw [hl]
  have R1 : Hid (∀ W, SW w W → RowL 1 encPt W (.slice A1 ps.length c1) ps) := Lib.hid (fun W h => r1.more h)
  have R2 : Hid (∀ W, SW w W → RowL 1 encPt W (.slice A2 qs.length c2) qs) := Lib.hid (fun W h => r2.more h)
  have T1 : Hid (∀ W, SW w W → ∀ x ∈ ps, PthAt W x) := Lib.hid (fun W h x hx => pthAt_more (a1 x hx) h)
  have T2 : Hid (∀ W, SW w W → ∀ x ∈ qs, PthAt W x) := Lib.hid (fun W h x hx => pthAt_more (a2 x hx) h)
  have HE : Hid (∀ (i : Nat) (x y : Pth), ps[i]? = some x → qs[i]? = some y → y.l = x.l ∧ x.l.length ≤ 1000) := Lib.hid (fun i x y hx hy => by
    have e1 : L[i]? = some x.l := by rw [← hp, List.getElem?_map, hx]; rfl
    have e2 : L[i]? = some y.l := by rw [← hq, List.getElem?_map, hy]; rfl
    rw [e1] at e2
    exact ⟨(Option.some.inj e2).symm, hm _ (List.mem_of_getElem? e1)⟩)
  clear hp hq r1 r2 a1 a2 hm hn
  have i0 : ((ps.length : Int) != (ps.length : Int)) = false := by simp
  go_enter Tryd.func9, Tryd.ntmps9
  go_wp2
  clear i0
  go_loopg [5] ps.length (fun kx vi wr => ∃ (i : Nat), vi = .int .i64 i ∧ i + kx = ps.length ∧ SW w wr)
  case atStart => exact ⟨0, rfl, by omega, Below.refl _ _⟩
  case round =>
    obtain ⟨i, rfl, hix, hS⟩ := hrel
    by_cases hlt : i < ps.length
    · obtain ⟨x, hx⟩ : ∃ x, ps[i]? = some x := ⟨_, List.getElem?_eq_getElem hlt⟩
      obtain ⟨y, hy⟩ : ∃ y, qs[i]? = some y := ⟨_, List.getElem?_eq_getElem (by omega)⟩
      obtain ⟨hyx, hxl⟩ := HE.out i x y hx hy
      obtain ⟨b1, o1, e1, hb1, hc1⟩ := row_get (R1.out _ hS) hx
      cases e1
      obtain ⟨b2, o2, e2, hb2, hc2⟩ := row_get (R2.out _ hS) hy
      cases e2
      have d1 := hc1 0 _ rfl
      have d2 := hc2 0 _ rfl
      rw [Nat.add_zero, Nat.mul_one] at d1 d2
      have P1 := (T1.out _ hS x (List.mem_of_getElem? hx))
      have P2 := (T2.out _ hS y (List.mem_of_getElem? hy))
      rw [hyx] at d2
      have i1 : (i : Int) < (ps.length : Int) := by omega
      have i2 : ((x.l.length : Int) != (x.l.length : Int)) = false := by simp
      have HIX := Lib.hid hix
      have hP1 : Hid (∀ (j k : Nat), x.l[j]? = some k → wr.cell? ⟨x.b, j, none⟩ = some (.int .i64 (k : Int))) := Lib.hid P1.2
      have hP2 : Hid (∀ (j k : Nat), x.l[j]? = some k → wr.cell? ⟨y.b, j, none⟩ = some (.int .i64 (k : Int))) := Lib.hid (fun j k h => P2.2 j k (by rw [hyx]; exact h))
      clear hx hy hyx hb1 hb2 hc1 hc2 P1 P2 hix HE R1 R2 T1 T2
      go_wp2
      go_quiet (fail)
      go_wp2
      clear i2
      go_loopg [6] x.l.length (fun kx vi wq => ∃ (j : Nat), vi = .int .i64 j ∧ j + kx = x.l.length ∧ SW wr wq)
      case atStart => exact ⟨0, rfl, by omega, below_drewN (Below.refl _ _) _⟩
      case round =>
        obtain ⟨j, rfl, hjx, hS2⟩ := hrel
        have d1 := bel_get d1 _ hS2
        have d2 := bel_get d2 _ hS2
        by_cases hlt2 : j < x.l.length
        · obtain ⟨k, hk⟩ : ∃ k, x.l[j]? = some k := ⟨_, List.getElem?_eq_getElem hlt2⟩
          have n1 := bel_get (hP1.out j k hk) _ hS2
          have n2 := bel_get (hP2.out j k hk) _ hS2
          have j1 : (j : Int) < (x.l.length : Int) := by omega
          have j2 : ((k : Int) != (k : Int)) = false := by simp
          have HJX := Lib.hid hjx
          clear hk hjx
          go_wp2
          go_quiet (fail)
          go_wp2
          go_roundg (x.l.length - (j + 1))
          case measure => have := HJX.out; omega
          case rel => exact ⟨j + 1, by go_num, by have := HJX.out; omega, below_drewN hS2 _⟩
        · have j1 : ¬ (j : Int) < (x.l.length : Int) := by omega
          go_wp2
          go_roundg (ps.length - (i + 1))
          case measure => have := HIX.out; omega
          case rel => exact ⟨i + 1, by go_num, by have := HIX.out; omega, Below.trans hS (Below.mono hS2 hS.size)⟩
    · have i1 : ¬ (i : Int) < (ps.length : Int) := by omega
      go_wp2
      go_ret
      exact ⟨rfl, hS⟩

/-- a segment whose times are out of bounds -/
def farB (l : List Sg) : Bool := l.any fun s => decide (min s.dep s.arr < -1099511627776) || decide (max s.dep s.arr > 1099511627776)
theorem far_no {l : List Sg} (h : farB l = false) : ∀ s ∈ l, tmB s := by
  intro s hs
  unfold farB at h
  rw [List.any_eq_false] at h
  have := h s hs
  simp only [Bool.or_eq_true, decide_eq_true_eq, not_or] at this
  unfold tmB
  omega
theorem farB_snoc (l : List Sg) (s : Sg) : farB (l ++ [s]) = (farB l || (decide (min s.dep s.arr < -1099511627776) || decide (max s.dep s.arr > 1099511627776))) := by
  unfold farB
  rw [List.any_append, List.any_cons, List.any_nil, Bool.or_false]
theorem farB_of {l : List Sg} {s : Sg} (h : s ∈ l) (hb : (decide (min s.dep s.arr < -1099511627776) || decide (max s.dep s.arr > 1099511627776)) = true) : farB l = true := by
  unfold farB
  rw [List.any_eq_true]
  exact ⟨s, h, hb⟩
set_option maxRecDepth 100000 in
set_option maxHeartbeats 8000000 in
theorem far_any (v : Value) (l : List Sg) (w : World) (hv : SgL w v l) (hn : l.length ≤ 100000) : Calls Tryd.prog 5 #[v] w fun e w' => e = .returned (.bool (farB l)) ∧ Below w.heap.size w w' := by
  obtain ⟨A, c, rfl, _⟩ := id hv
  have HV := Lib.hid hv
  clear hv
  have HI : Hid (farB (l.take 0) = false) := Lib.hid rfl
  go_enter Tryd.func5, Tryd.ntmps5
  go_wp2
  go_loopg [3] l.length (fun kx vi wr => ∃ (k : Nat), vi = .int .i64 k ∧ k + kx = l.length ∧ Hid (farB (l.take k) = false) ∧ SW w wr)
  case atStart => exact ⟨0, rfl, by omega, HI, Below.refl _ _⟩
  case round =>
    obtain ⟨k, rfl, hkx, HK, hS⟩ := hrel
    have HKX := Lib.hid hkx
    by_cases hlt : k < l.length
    · obtain ⟨x, hx⟩ : ∃ x, l[k]? = some x := ⟨_, List.getElem?_eq_getElem hlt⟩
      obtain ⟨bb, off, e1, hbl, hc⟩ := row_get (HV.out.more hS) hx
      cases e1
      have i2 : (k : Int) < (l.length : Int) := by omega
      have d0 := hc 0 _ rfl
      have d1 := hc 1 _ rfl
      have d2 := hc 2 _ rfl
      have d3 := hc 3 _ rfl
      have d4 := hc 4 _ rfl
      have d5 := hc 5 _ rfl
      have d6 := hc 6 _ rfl
      rw [Nat.add_zero] at d0
      have HS : Hid (farB (l.take (k + 1)) = (decide (min x.dep x.arr < -1099511627776) || decide (max x.dep x.arr > 1099511627776))) := Lib.hid (by rw [List.take_add_one, hx]; exact (farB_snoc _ _).trans (by rw [HK.out]; rfl))
      have HM := Lib.hid (List.mem_of_getElem? hx)
      have hb1 := bel_alloc wr (.cells #[.string x.car, .int .i64 x.num, .int .i64 x.day, .string x.f, .string x.t, .int .i64 x.dep, .int .i64 x.arr] sgT)
      have q5 := (cells_new wr #[.string x.car, .int .i64 x.num, .int .i64 x.day, .string x.f, .string x.t, .int .i64 x.dep, .int .i64 x.arr] sgT 5).trans (show _ = some (Value.int .i64 x.dep) from rfl)
      have q6 := (cells_new wr #[.string x.car, .int .i64 x.num, .int .i64 x.day, .string x.f, .string x.t, .int .i64 x.dep, .int .i64 x.arr] sgT 6).trans (show _ = some (Value.int .i64 x.arr) from rfl)
      have HS1 := Lib.hid (show SW w (wr.alloc (.cells #[.string x.car, .int .i64 x.num, .int .i64 x.day, .string x.f, .string x.t, .int .i64 x.dep, .int .i64 x.arr] sgT)) from Below.alloc hS hS.size _)
      clear hx hc hbl hkx hb1 hS
      cases h1 : decide (min x.dep x.arr < -1099511627776) with
      | true =>
        have h1' : min x.dep x.arr < -1099511627776 := of_decide_eq_true h1
        have HR : Hid (true = farB l) := Lib.hid (farB_of HM.out (by rw [h1]; rfl)).symm
        go_wp2
        all_goals first
          | (exfalso; omega)
          | (go_ret; exact ⟨ret_bool HR.out, HS1.out⟩)
      | false =>
        have h1' : ¬ min x.dep x.arr < -1099511627776 := of_decide_eq_false h1
        cases h2 : decide (max x.dep x.arr > 1099511627776) with
        | true =>
          have h2' : max x.dep x.arr > 1099511627776 := of_decide_eq_true h2
          have h2'' : 1099511627776 < max x.dep x.arr := h2'
          have HR : Hid (true = farB l) := Lib.hid (farB_of HM.out (by rw [h2, Bool.or_true])).symm
          go_wp2
          all_goals first
            | (exfalso; omega)
            | (go_ret; exact ⟨ret_bool HR.out, HS1.out⟩)
        | false =>
          have h2' : ¬ 1099511627776 < max x.dep x.arr := of_decide_eq_false h2
          have HR : Hid (farB (l.take (k + 1)) = false) := Lib.hid (by rw [HS.out, h1, h2]; rfl)
          go_wp2
          all_goals first
            | (exfalso; omega)
            | (go_roundg (l.length - (k + 1))
               case measure => have := HKX.out; omega
               case rel => exact ⟨k + 1, by go_num, by have := HKX.out; omega, HR, HS1.out⟩)
    · have HR : Hid (false = farB l) := Lib.hid (by rw [← HK.out, show l.take k = l from List.take_of_length_le (by omega)])
      have i2 : ¬ (k : Int) < (l.length : Int) := by omega
      go_wp2
      go_ret
      exact ⟨ret_bool HR.out, hS⟩
end Go.Proofs.YtkcdifanhdakhaaDoor.Con

/- Walk of the laws' knows. -/
namespace Go.Proofs.YtkcdifanhdakhaaDoor.Con
open Go.RowKit Go.Shelf
set_option linter.unusedSimpArgs false
set_option linter.unusedVariables false

theorem row_at {w : World} {g : Nat} {cs : Array Value} {t : TypeId} (h : w.heap[g]? = some (.cells cs t (0, 0))) (j : Nat) {v : Value} (hv : cs[j]? = some v) : w.cell? ⟨g, j, none⟩ = some v := (cell_of_row w g j _ _ (0, 0) h).trans hv
theorem row_low {w w' : World} {B g : Nat} {o : Obj} (hb : Below B w w') (hl : g < B) (h : w.heap[g]? = some o) : w'.heap[g]? = some o := (hb.block g hl).trans h

theorem pthL_but {w w' : World} {v : Value} {L : List (List Nat)} {N : Nat} {cs : Array Value} {t : TypeId} (h : PthL w v L) (hr : w.heap[N]? = some (.cells cs t (0, 0))) (h0 : ∀ i, cs[0]? ≠ some (.int .i64 i))
    (hsl : ∀ u ∈ cs.toList, ∀ A n c, u ≠ Value.slice A n c) (hne : ∀ x ∈ L, x ≠ []) (hB : But w w' (fun k => k = N)) : PthL w' v L := by
  obtain ⟨ps, rfl, ⟨A, c, rfl, hrow⟩, hat⟩ := h
  refine ⟨ps, rfl, ⟨A, c, rfl, ?_⟩, fun x hx => ?_⟩
  · rcases hrow with h | ⟨b, o, rfl, hlt, hc⟩
    · exact .inl h
    · by_cases he : ps = []
      · exact .inl he
      · obtain ⟨x, xs, rfl⟩ := List.exists_cons_of_ne_nil he
        have hb : b ≠ N := by
          rintro rfl
          have h1 := hc 0 x 0 _ rfl rfl
          rw [cell_of_row w b _ _ _ (0, 0) hr] at h1
          exact hsl _ (Array.mem_toList_iff.2 (Array.mem_of_getElem? h1)) _ _ _ rfl
        exact .inr ⟨b, o, rfl, Nat.lt_of_lt_of_le hlt hB.size, fun i y j u hi hu => (World.cell?_of_block (hB.block b hlt hb)).trans (hc i y j u hi hu)⟩
  · have hb : x.b ≠ N := by
      intro e
      cases hl : x.l with
      | nil => exact hne x.l (List.mem_map_of_mem hx) hl
      | cons k ks =>
        have h1 := (hat x hx).2 0 k (by rw [hl]; rfl)
        rw [e, cell_of_row w N _ _ _ (0, 0) hr] at h1
        exact h0 _ h1
    exact ⟨Nat.lt_of_lt_of_le (hat x hx).1 hB.size, fun i k hk => (World.cell?_of_block (hB.block x.b (hat x hx).1 hb)).trans ((hat x hx).2 i k hk)⟩
theorem k_airR {w : World} {N : Nat} (hr : w.heap[N]? = some (.cells #[.string ⟨#[74, 70, 75]⟩, .string ⟨#[78, 89, 67]⟩, .string ⟨#[85, 83]⟩, .int .i64 0, .slice none 0 0, .string ⟨#[76, 72, 82]⟩, .string ⟨#[76, 79, 78]⟩, .string ⟨#[71, 66]⟩, .int .i64 0, .slice none 0 0, .string ⟨#[67, 68, 71]⟩, .string ⟨#[80, 65, 82]⟩, .string ⟨#[70, 82]⟩, .int .i64 0, .slice none 0 0, .string ⟨#[76, 71, 87]⟩, .string ⟨#[76, 79, 78]⟩, .string ⟨#[71, 66]⟩, .int .i64 0, .slice none 0 0] airT (0, 0))) : AirL w (some ⟨N, 0, none⟩) kA := by
  refine .inr ⟨N, 0, rfl, (Array.getElem?_eq_some_iff.1 hr).1, fun i a hi => ?_⟩
  have hg : ∀ j v, (#[.string ⟨#[74, 70, 75]⟩, .string ⟨#[78, 89, 67]⟩, .string ⟨#[85, 83]⟩, .int .i64 0, .slice none 0 0, .string ⟨#[76, 72, 82]⟩, .string ⟨#[76, 79, 78]⟩, .string ⟨#[71, 66]⟩, .int .i64 0, .slice none 0 0, .string ⟨#[67, 68, 71]⟩, .string ⟨#[80, 65, 82]⟩, .string ⟨#[70, 82]⟩, .int .i64 0, .slice none 0 0, .string ⟨#[76, 71, 87]⟩, .string ⟨#[76, 79, 78]⟩, .string ⟨#[71, 66]⟩, .int .i64 0, .slice none 0 0] : Array Value)[j]? = some v → w.cell? ⟨N, j, none⟩ = some v := fun j v h => row_at hr j h
  have hlt := (List.getElem?_eq_some_iff.1 hi).1
  have h2 : i = 0 ∨ i = 1 ∨ i = 2 ∨ i = 3 := by simp [kA] at hlt; omega
  rcases h2 with rfl | rfl | rfl | rfl
  all_goals
    simp [kA] at hi
    subst hi
  · exact ⟨hg 0 _ rfl, hg 1 _ rfl, hg 2 _ rfl, hg 3 _ rfl, hg 4 _ rfl, .inl rfl⟩
  · exact ⟨hg 5 _ rfl, hg 6 _ rfl, hg 7 _ rfl, hg 8 _ rfl, hg 9 _ rfl, .inl rfl⟩
  · exact ⟨hg 10 _ rfl, hg 11 _ rfl, hg 12 _ rfl, hg 13 _ rfl, hg 14 _ rfl, .inl rfl⟩
  · exact ⟨hg 15 _ rfl, hg 16 _ rfl, hg 17 _ rfl, hg 18 _ rfl, hg 19 _ rfl, .inl rfl⟩

set_option maxRecDepth 100000 in
set_option maxHeartbeats 16000000 in
theorem knows_any (w : World) : Calls Tryd.prog 6 #[] w fun e w' => e = .returned (.bool true) ∧ Below w.heap.size w w' := by
  go_enter Tryd.func6, Tryd.ntmps6
  go_upto_region 2 with fail
  have hbA := bel_alloc w (.cells #[.string ⟨#[76, 72, 82]⟩, .string noB, .string noB, .int .i64 45, .string noB, .string ⟨#[66, 65]⟩, .string ⟨#[66, 65]⟩, .int .i64 30] cnT)
  have hCA : CnL (w.alloc (.cells #[.string ⟨#[76, 72, 82]⟩, .string noB, .string noB, .int .i64 45, .string noB, .string ⟨#[66, 65]⟩, .string ⟨#[66, 65]⟩, .int .i64 30] cnT)) (.slice (some ⟨w.heap.size, 0, none⟩) 2 2) kC := RowL.new (enc := encCn) (sz := 4) w kC cnT (fun _ => rfl) rfl 2
  generalize hA : w.alloc (.cells #[.string ⟨#[76, 72, 82]⟩, .string noB, .string noB, .int .i64 45, .string noB, .string ⟨#[66, 65]⟩, .string ⟨#[66, 65]⟩, .int .i64 30] cnT) = wA at *
  clear hA
  have KC := Lib.hid (check_any (.slice (some ⟨wA.heap.size, 0, none⟩) 1 1) kX (wA.alloc (.cells #[.string ⟨#[76, 72, 82]⟩, .string noB, .string noB, .int .i64 2000] cnT)) (RowL.new (enc := encCn) (sz := 4) wA kX cnT (fun _ => rfl) rfl 1) (by decide) k_okC)
  have hbX := bel_alloc wA (.cells #[.string ⟨#[76, 72, 82]⟩, .string noB, .string noB, .int .i64 2000] cnT)
  go_upto_region 3 with (go_at_call 14; refine KC.out.mono ?_; rintro e w2 ⟨v2, rfl, hO2, hb2⟩)
  have hF2 := hO2.rowL rtF.len
  rw [show conF kX kX.length = [(2, kW)] from k_con] at hF2
  have hbA2 : Below wA.heap.size wA w2 := hbX.trans (hb2.mono hbX.size)
  have HC2 := Lib.hid (hCA.more hbA2)
  have HB2 := Lib.hid (hbA.trans (hbA2.mono hbA.size))
  obtain ⟨A2, c2, rfl, _⟩ := id hF2
  obtain ⟨b2, o2, e2, _, hc2⟩ := row_get hF2 (k := 0) rfl
  cases e2
  have f0 := hc2 0 _ rfl
  have f1 := hc2 1 (.string ⟨#[99, 111, 110, 110, 101, 99, 116, 32, 48]⟩) rfl
  rw [Nat.zero_mul, Nat.add_zero] at f0 f1
  have Ff0 := Lib.hid (bel_get f0)
  have Ff1 := Lib.hid (bel_get f1)
  clear hO2 hF2 hc2 f0 f1 hb2 hbX hbA hbA2 hCA KC
  -- the segments
  go_upto_region 4 with fail
  have r3 := heap_alloc_new w2 (.cells #[.string ⟨#[66, 65]⟩, .int .i64 1, .int .i64 0, .string ⟨#[74, 70, 75]⟩, .string ⟨#[76, 72, 82]⟩, .int .i64 100, .int .i64 500] sgT)
  have hb3 := bel_alloc w2 (.cells #[.string ⟨#[66, 65]⟩, .int .i64 1, .int .i64 0, .string ⟨#[74, 70, 75]⟩, .string ⟨#[76, 72, 82]⟩, .int .i64 100, .int .i64 500] sgT)
  generalize h3 : w2.alloc (.cells #[.string ⟨#[66, 65]⟩, .int .i64 1, .int .i64 0, .string ⟨#[74, 70, 75]⟩, .string ⟨#[76, 72, 82]⟩, .int .i64 100, .int .i64 500] sgT) = w3 at *
  have l3 := (fun {w : World} {n : Nat} {o : Obj} (h : w.heap[n]? = some o) => (Array.getElem?_eq_some_iff.1 h).1) r3
  go_upto_region 5 with fail
  have r4 := heap_alloc_new w3 (.cells #[.string ⟨#[66, 65]⟩, .int .i64 2, .int .i64 0, .string ⟨#[76, 72, 82]⟩, .string ⟨#[67, 68, 71]⟩, .int .i64 560, .int .i64 600] sgT)
  have hb4 := bel_alloc w3 (.cells #[.string ⟨#[66, 65]⟩, .int .i64 2, .int .i64 0, .string ⟨#[76, 72, 82]⟩, .string ⟨#[67, 68, 71]⟩, .int .i64 560, .int .i64 600] sgT)
  have r3 := row_low hb4 ((fun {w : World} {n : Nat} {o : Obj} (h : w.heap[n]? = some o) => (Array.getElem?_eq_some_iff.1 h).1) r3) r3
  generalize h4 : w3.alloc (.cells #[.string ⟨#[66, 65]⟩, .int .i64 2, .int .i64 0, .string ⟨#[76, 72, 82]⟩, .string ⟨#[67, 68, 71]⟩, .int .i64 560, .int .i64 600] sgT) = w4 at *
  have l4 := (fun {w : World} {n : Nat} {o : Obj} (h : w.heap[n]? = some o) => (Array.getElem?_eq_some_iff.1 h).1) r4
  have s0 := row_at r4 0 (show _ = some (Value.string ⟨#[66, 65]⟩) from rfl)
  have s1 := row_at r4 1 (show _ = some (Value.int .i64 2) from rfl)
  have s2 := row_at r4 2 (show _ = some (Value.int .i64 0) from rfl)
  have s3 := row_at r4 3 (show _ = some (Value.string ⟨#[76, 72, 82]⟩) from rfl)
  have s4 := row_at r4 4 (show _ = some (Value.string ⟨#[67, 68, 71]⟩) from rfl)
  have s5 := row_at r4 5 (show _ = some (Value.int .i64 560) from rfl)
  have s6 := row_at r4 6 (show _ = some (Value.int .i64 600) from rfl)
  go_upto_region 6 with fail
  have r5 := heap_alloc_new w4 (.cells #[.string ⟨#[66, 65]⟩, .int .i64 2, .int .i64 0, .string ⟨#[76, 72, 82]⟩, .string ⟨#[67, 68, 71]⟩, .int .i64 560, .int .i64 600] sgT)
  have hb5 := bel_alloc w4 (.cells #[.string ⟨#[66, 65]⟩, .int .i64 2, .int .i64 0, .string ⟨#[76, 72, 82]⟩, .string ⟨#[67, 68, 71]⟩, .int .i64 560, .int .i64 600] sgT)
  have r3 := row_low hb5 ((fun {w : World} {n : Nat} {o : Obj} (h : w.heap[n]? = some o) => (Array.getElem?_eq_some_iff.1 h).1) r3) r3
  have r4 := row_low hb5 ((fun {w : World} {n : Nat} {o : Obj} (h : w.heap[n]? = some o) => (Array.getElem?_eq_some_iff.1 h).1) r4) r4
  generalize h5 : w4.alloc (.cells #[.string ⟨#[66, 65]⟩, .int .i64 2, .int .i64 0, .string ⟨#[76, 72, 82]⟩, .string ⟨#[67, 68, 71]⟩, .int .i64 560, .int .i64 600] sgT) = w5 at *
  have z5 := frozen_of_row w5 _ 5 _ _ r5
  have y5 := row_at r5 5 rfl
  have hb6 := (But.setCell w5 w4.heap.size 5 (.int .i64 559))
  have r6 := heap_setCell_same w5 w4.heap.size 5 _ sgT (.int .i64 559) r5
  go_upto_region 7 with fail
  have r3 := (hb6.block _ ((fun {w : World} {n : Nat} {o : Obj} (h : w.heap[n]? = some o) => (Array.getElem?_eq_some_iff.1 h).1) r3) (by omega)).trans r3
  have r4 := (hb6.block _ ((fun {w : World} {n : Nat} {o : Obj} (h : w.heap[n]? = some o) => (Array.getElem?_eq_some_iff.1 h).1) r4) (by omega)).trans r4
  have hb26 : Below w2.heap.size w2 (w5.setCell ⟨w4.heap.size, 5, none⟩ (.int .i64 559)) := hb3.trans ((hb4.trans ((hb5.trans (hb6.below hb5.size (fun k hk => by omega))).mono hb4.size)).mono hb3.size)
  generalize h6 : w5.setCell ⟨w4.heap.size, 5, none⟩ (.int .i64 559) = w6 at *
  clear h3 h4 h5 h6 hb3 hb4 hb5 hb6 r5 z5 y5 s0 s1 s2 s3 s4 s5 s6
  go_upto_region 8 with fail
  have r7 := heap_alloc_new w6 (.cells #[.string ⟨#[66, 65]⟩, .int .i64 3, .int .i64 0, .string ⟨#[74, 70, 75]⟩, .string ⟨#[67, 68, 71]⟩, .int .i64 100, .int .i64 600] sgT)
  have hb7 := bel_alloc w6 (.cells #[.string ⟨#[66, 65]⟩, .int .i64 3, .int .i64 0, .string ⟨#[74, 70, 75]⟩, .string ⟨#[67, 68, 71]⟩, .int .i64 100, .int .i64 600] sgT)
  have r3 := row_low hb7 ((fun {w : World} {n : Nat} {o : Obj} (h : w.heap[n]? = some o) => (Array.getElem?_eq_some_iff.1 h).1) r3) r3
  have r4 := row_low hb7 ((fun {w : World} {n : Nat} {o : Obj} (h : w.heap[n]? = some o) => (Array.getElem?_eq_some_iff.1 h).1) r4) r4
  have r6 := row_low hb7 ((fun {w : World} {n : Nat} {o : Obj} (h : w.heap[n]? = some o) => (Array.getElem?_eq_some_iff.1 h).1) r6) r6
  have hb27 := hb26.trans (hb7.mono hb26.size)
  generalize h7 : w6.alloc (.cells #[.string ⟨#[66, 65]⟩, .int .i64 3, .int .i64 0, .string ⟨#[74, 70, 75]⟩, .string ⟨#[67, 68, 71]⟩, .int .i64 100, .int .i64 600] sgT) = w7 at *
  clear h7 hb7 hb26
  generalize w6.heap.size = N6 at *
  generalize w3.heap.size = N3 at *
  generalize w4.heap.size = N4 at *
  generalize hN2 : w2.heap.size = N2 at *
  have a0 := row_at r3 0 (show _ = some (Value.string ⟨#[66, 65]⟩) from rfl)
  have a1 := row_at r3 1 (show _ = some (Value.int .i64 1) from rfl)
  have a2 := row_at r3 2 (show _ = some (Value.int .i64 0) from rfl)
  have a3 := row_at r3 3 (show _ = some (Value.string ⟨#[74, 70, 75]⟩) from rfl)
  have a4 := row_at r3 4 (show _ = some (Value.string ⟨#[76, 72, 82]⟩) from rfl)
  have a5 := row_at r3 5 (show _ = some (Value.int .i64 100) from rfl)
  have a6 := row_at r3 6 (show _ = some (Value.int .i64 500) from rfl)
  have b0 := row_at r4 0 (show _ = some (Value.string ⟨#[66, 65]⟩) from rfl)
  have b1 := row_at r4 1 (show _ = some (Value.int .i64 2) from rfl)
  have b2 := row_at r4 2 (show _ = some (Value.int .i64 0) from rfl)
  have b3 := row_at r4 3 (show _ = some (Value.string ⟨#[76, 72, 82]⟩) from rfl)
  have b4 := row_at r4 4 (show _ = some (Value.string ⟨#[67, 68, 71]⟩) from rfl)
  have b5 := row_at r4 5 (show _ = some (Value.int .i64 560) from rfl)
  have b6 := row_at r4 6 (show _ = some (Value.int .i64 600) from rfl)
  have c0 := row_at r6 0 (show _ = some (Value.string ⟨#[66, 65]⟩) from rfl)
  have c1 := row_at r6 1 (show _ = some (Value.int .i64 2) from rfl)
  have c2 := row_at r6 2 (show _ = some (Value.int .i64 0) from rfl)
  have c3 := row_at r6 3 (show _ = some (Value.string ⟨#[76, 72, 82]⟩) from rfl)
  have c4 := row_at r6 4 (show _ = some (Value.string ⟨#[67, 68, 71]⟩) from rfl)
  have c5 := row_at r6 5 (show _ = some (Value.int .i64 559) from rfl)
  have c6 := row_at r6 6 (show _ = some (Value.int .i64 600) from rfl)
  have d0 := row_at r7 0 (show _ = some (Value.string ⟨#[66, 65]⟩) from rfl)
  have d1 := row_at r7 1 (show _ = some (Value.int .i64 3) from rfl)
  have d2 := row_at r7 2 (show _ = some (Value.int .i64 0) from rfl)
  have d3 := row_at r7 3 (show _ = some (Value.string ⟨#[74, 70, 75]⟩) from rfl)
  have d4 := row_at r7 4 (show _ = some (Value.string ⟨#[67, 68, 71]⟩) from rfl)
  have d5 := row_at r7 5 (show _ = some (Value.int .i64 100) from rfl)
  have d6 := row_at r7 6 (show _ = some (Value.int .i64 600) from rfl)
  have KP : Hid (Calls Tryd.prog 7 #[.slice none 0 0, .slice (some ⟨w7.heap.size, 0, none⟩) 4 4, .string ⟨#[74, 70, 75]⟩, .string ⟨#[67, 68, 71]⟩, .int .i64 2] (w7.alloc (.cells #[.string ⟨#[66, 65]⟩, .int .i64 1, .int .i64 0, .string ⟨#[74, 70, 75]⟩, .string ⟨#[76, 72, 82]⟩, .int .i64 100, .int .i64 500, .string ⟨#[66, 65]⟩, .int .i64 2, .int .i64 0, .string ⟨#[76, 72, 82]⟩, .string ⟨#[67, 68, 71]⟩, .int .i64 560, .int .i64 600, .string ⟨#[66, 65]⟩, .int .i64 2, .int .i64 0, .string ⟨#[76, 72, 82]⟩, .string ⟨#[67, 68, 71]⟩, .int .i64 559, .int .i64 600, .string ⟨#[66, 65]⟩, .int .i64 3, .int .i64 0, .string ⟨#[74, 70, 75]⟩, .string ⟨#[67, 68, 71]⟩, .int .i64 100, .int .i64 600] sgT)) fun e w' => ∃ v er, e = .returned (.tuple #[v, .int .i64 er]) ∧ PathsR [] kS ⟨#[74, 70, 75]⟩ ⟨#[67, 68, 71]⟩ 2 w' v er ∧ Below (w7.alloc (.cells #[.string ⟨#[66, 65]⟩, .int .i64 1, .int .i64 0, .string ⟨#[74, 70, 75]⟩, .string ⟨#[76, 72, 82]⟩, .int .i64 100, .int .i64 500, .string ⟨#[66, 65]⟩, .int .i64 2, .int .i64 0, .string ⟨#[76, 72, 82]⟩, .string ⟨#[67, 68, 71]⟩, .int .i64 560, .int .i64 600, .string ⟨#[66, 65]⟩, .int .i64 2, .int .i64 0, .string ⟨#[76, 72, 82]⟩, .string ⟨#[67, 68, 71]⟩, .int .i64 559, .int .i64 600, .string ⟨#[66, 65]⟩, .int .i64 3, .int .i64 0, .string ⟨#[74, 70, 75]⟩, .string ⟨#[67, 68, 71]⟩, .int .i64 100, .int .i64 600] sgT)).heap.size (w7.alloc (.cells #[.string ⟨#[66, 65]⟩, .int .i64 1, .int .i64 0, .string ⟨#[74, 70, 75]⟩, .string ⟨#[76, 72, 82]⟩, .int .i64 100, .int .i64 500, .string ⟨#[66, 65]⟩, .int .i64 2, .int .i64 0, .string ⟨#[76, 72, 82]⟩, .string ⟨#[67, 68, 71]⟩, .int .i64 560, .int .i64 600, .string ⟨#[66, 65]⟩, .int .i64 2, .int .i64 0, .string ⟨#[76, 72, 82]⟩, .string ⟨#[67, 68, 71]⟩, .int .i64 559, .int .i64 600, .string ⟨#[66, 65]⟩, .int .i64 3, .int .i64 0, .string ⟨#[74, 70, 75]⟩, .string ⟨#[67, 68, 71]⟩, .int .i64 100, .int .i64 600] sgT)) w') := Lib.hid (paths_any none 0 [] (some ⟨w7.heap.size, 0, none⟩) 4 kS ⟨#[74, 70, 75]⟩ ⟨#[67, 68, 71]⟩ 2 _ ⟨none, 0, rfl, .inl rfl⟩ (RowL.new (enc := encSg) (sz := 7) w7 kS sgT (fun _ => rfl) rfl 4) (by decide) (by decide) k_sz k_tm)
  have hbR := bel_alloc w7 (.cells #[.string ⟨#[66, 65]⟩, .int .i64 1, .int .i64 0, .string ⟨#[74, 70, 75]⟩, .string ⟨#[76, 72, 82]⟩, .int .i64 100, .int .i64 500, .string ⟨#[66, 65]⟩, .int .i64 2, .int .i64 0, .string ⟨#[76, 72, 82]⟩, .string ⟨#[67, 68, 71]⟩, .int .i64 560, .int .i64 600, .string ⟨#[66, 65]⟩, .int .i64 2, .int .i64 0, .string ⟨#[76, 72, 82]⟩, .string ⟨#[67, 68, 71]⟩, .int .i64 559, .int .i64 600, .string ⟨#[66, 65]⟩, .int .i64 3, .int .i64 0, .string ⟨#[74, 70, 75]⟩, .string ⟨#[67, 68, 71]⟩, .int .i64 100, .int .i64 600] sgT)
  go_upto_region 9 with (go_at_call 7; refine KP.out.mono ?_; rintro e w8 ⟨v8, er, rfl, hP, hb8⟩)
  obtain ⟨rfl, hPL⟩ := k_paths hP
  have hb78 := hbR.trans (hb8.mono hbR.size)
  have r3 := row_low hb78 ((fun {w : World} {n : Nat} {o : Obj} (h : w.heap[n]? = some o) => (Array.getElem?_eq_some_iff.1 h).1) r3) r3
  have r4 := row_low hb78 ((fun {w : World} {n : Nat} {o : Obj} (h : w.heap[n]? = some o) => (Array.getElem?_eq_some_iff.1 h).1) r4) r4
  have r6 := row_low hb78 ((fun {w : World} {n : Nat} {o : Obj} (h : w.heap[n]? = some o) => (Array.getElem?_eq_some_iff.1 h).1) r6) r6
  have hb28 := hb27.trans (hb78.mono (by rw [← hN2]; exact hb27.size))
  have HPL := Lib.hid hPL
  have HB8 : Hid (Below w.heap.size w w8) := Lib.hid (HB2.out.trans (hb28.mono (by rw [← hN2]; exact HB2.out.size)))
  have HC8 := Lib.hid (HC2.out.more (by rw [hN2]; exact hb28))
  have f0 := Ff0.out _ (by unfold SW; rw [hN2]; exact hb28)
  have f1 := Ff1.out _ (by unfold SW; rw [hN2]; exact hb28)
  have KM1 : Hid (∀ W, SW w8 W → Calls Tryd.prog 15 #[.slice (some ⟨w.heap.size, 0, none⟩) 2 2, .string ⟨#[76, 72, 82]⟩, .string ⟨#[66, 65]⟩, .string ⟨#[66, 65]⟩] W fun e w' => e = .returned (.int .i64 30) ∧ Below W.heap.size W w') := Lib.hid (fun W h => by have := minutes_any _ kC ⟨#[76, 72, 82]⟩ ⟨#[66, 65]⟩ ⟨#[66, 65]⟩ W (HC8.out.more h) (by decide); rw [k_min1] at this; exact this)
  have KM2 : Hid (∀ W, SW w8 W → Calls Tryd.prog 15 #[.slice (some ⟨w.heap.size, 0, none⟩) 2 2, .string ⟨#[76, 72, 82]⟩, .string ⟨#[66, 65]⟩, .string ⟨#[65, 70]⟩] W fun e w' => e = .returned (.int .i64 45) ∧ Below W.heap.size W w') := Lib.hid (fun W h => by have := minutes_any _ kC ⟨#[76, 72, 82]⟩ ⟨#[66, 65]⟩ ⟨#[65, 70]⟩ W (HC8.out.more h) (by decide); rw [k_min2] at this; exact this)
  have KF1 : Hid (∀ W, SW w8 W → Calls Tryd.prog 12 #[.slice none 0 0, .agg #[.string ⟨#[66, 65]⟩, .int .i64 1, .int .i64 0, .string ⟨#[74, 70, 75]⟩, .string ⟨#[76, 72, 82]⟩, .int .i64 100, .int .i64 500], .agg #[.string ⟨#[66, 65]⟩, .int .i64 2, .int .i64 0, .string ⟨#[76, 72, 82]⟩, .string ⟨#[67, 68, 71]⟩, .int .i64 560, .int .i64 600]] W fun e w' => e = .returned (.bool true) ∧ Below W.heap.size W w') := Lib.hid (fun W h => by have := fits_any (.slice none 0 0) [] kF1 kF2 W ⟨none, 0, rfl, .inl rfl⟩ (by decide) (k_tm _ (by simp [kS])) (k_tm _ (by simp [kS])); rw [k_fit1] at this; exact this)
  have KF2 : Hid (∀ W, SW w8 W → Calls Tryd.prog 12 #[.slice none 0 0, .agg #[.string ⟨#[66, 65]⟩, .int .i64 1, .int .i64 0, .string ⟨#[74, 70, 75]⟩, .string ⟨#[76, 72, 82]⟩, .int .i64 100, .int .i64 500], .agg #[.string ⟨#[66, 65]⟩, .int .i64 2, .int .i64 0, .string ⟨#[76, 72, 82]⟩, .string ⟨#[67, 68, 71]⟩, .int .i64 559, .int .i64 600]] W fun e w' => e = .returned (.bool false) ∧ Below W.heap.size W w') := Lib.hid (fun W h => by have := fits_any (.slice none 0 0) [] kF1 kF3 W ⟨none, 0, rfl, .inl rfl⟩ (by decide) (k_tm _ (by simp [kS])) (k_tm _ (by simp [kS])); rw [k_fit2] at this; exact this)
  have FA0 := Lib.hid (bel_get (row_at r3 0 (show _ = some (Value.string ⟨#[66, 65]⟩) from rfl)))
  have FA1 := Lib.hid (bel_get (row_at r3 1 (show _ = some (Value.int .i64 1) from rfl)))
  have FA2 := Lib.hid (bel_get (row_at r3 2 (show _ = some (Value.int .i64 0) from rfl)))
  have FA3 := Lib.hid (bel_get (row_at r3 3 (show _ = some (Value.string ⟨#[74, 70, 75]⟩) from rfl)))
  have FA4 := Lib.hid (bel_get (row_at r3 4 (show _ = some (Value.string ⟨#[76, 72, 82]⟩) from rfl)))
  have FA5 := Lib.hid (bel_get (row_at r3 5 (show _ = some (Value.int .i64 100) from rfl)))
  have FA6 := Lib.hid (bel_get (row_at r3 6 (show _ = some (Value.int .i64 500) from rfl)))
  have FB0 := Lib.hid (bel_get (row_at r4 0 (show _ = some (Value.string ⟨#[66, 65]⟩) from rfl)))
  have FB1 := Lib.hid (bel_get (row_at r4 1 (show _ = some (Value.int .i64 2) from rfl)))
  have FB2 := Lib.hid (bel_get (row_at r4 2 (show _ = some (Value.int .i64 0) from rfl)))
  have FB3 := Lib.hid (bel_get (row_at r4 3 (show _ = some (Value.string ⟨#[76, 72, 82]⟩) from rfl)))
  have FB4 := Lib.hid (bel_get (row_at r4 4 (show _ = some (Value.string ⟨#[67, 68, 71]⟩) from rfl)))
  have FB5 := Lib.hid (bel_get (row_at r4 5 (show _ = some (Value.int .i64 560) from rfl)))
  have FB6 := Lib.hid (bel_get (row_at r4 6 (show _ = some (Value.int .i64 600) from rfl)))
  have FC0 := Lib.hid (bel_get (row_at r6 0 (show _ = some (Value.string ⟨#[66, 65]⟩) from rfl)))
  have FC1 := Lib.hid (bel_get (row_at r6 1 (show _ = some (Value.int .i64 2) from rfl)))
  have FC2 := Lib.hid (bel_get (row_at r6 2 (show _ = some (Value.int .i64 0) from rfl)))
  have FC3 := Lib.hid (bel_get (row_at r6 3 (show _ = some (Value.string ⟨#[76, 72, 82]⟩) from rfl)))
  have FC4 := Lib.hid (bel_get (row_at r6 4 (show _ = some (Value.string ⟨#[67, 68, 71]⟩) from rfl)))
  have FC5 := Lib.hid (bel_get (row_at r6 5 (show _ = some (Value.int .i64 559) from rfl)))
  have FC6 := Lib.hid (bel_get (row_at r6 6 (show _ = some (Value.int .i64 600) from rfl)))
  clear hP hb8 hb78 hbR hb27 hb28 KP Ff0 Ff1
  clear a0 a1 a2 a3 a4 a5 a6 b0 b1 b2 b3 b4 b5 b6 c0 c1 c2 c3 c4 c5 c6 d0 d1 d2 d3 d4 d5 d6
  have R3 := Lib.hid r3
  have R4 := Lib.hid r4
  have R6 := Lib.hid r6
  clear r3 r4 r6 r7
  have hS : SW w8 w8 := Below.refl _ _
  go_upto_region 11 with (first
    | (go_at_call 15; with_reducible refine (KM1.out _ hS).mono ?_; rintro e w9 ⟨rfl, hb9⟩; have hS := Below.trans hS (Below.mono hb9 hS.size))
    | (go_at_call 15; with_reducible refine (KM2.out _ hS).mono ?_; rintro e w10 ⟨rfl, hb10⟩; have hS := Below.trans hS (Below.mono hb10 hS.size); have a0 := FA0.out _ hS; have a1 := FA1.out _ hS; have a2 := FA2.out _ hS; have a3 := FA3.out _ hS; have a4 := FA4.out _ hS; have a5 := FA5.out _ hS; have a6 := FA6.out _ hS; have b0 := FB0.out _ hS; have b1 := FB1.out _ hS; have b2 := FB2.out _ hS; have b3 := FB3.out _ hS; have b4 := FB4.out _ hS; have b5 := FB5.out _ hS; have b6 := FB6.out _ hS)
    | (go_at_call 12; with_reducible refine (KF1.out _ hS).mono ?_; rintro e w11 ⟨rfl, hb11⟩; have hS := Below.trans hS (Below.mono hb11 hS.size); have a0 := FA0.out _ hS; have a1 := FA1.out _ hS; have a2 := FA2.out _ hS; have a3 := FA3.out _ hS; have a4 := FA4.out _ hS; have a5 := FA5.out _ hS; have a6 := FA6.out _ hS; have c0 := FC0.out _ hS; have c1 := FC1.out _ hS; have c2 := FC2.out _ hS; have c3 := FC3.out _ hS; have c4 := FC4.out _ hS; have c5 := FC5.out _ hS; have c6 := FC6.out _ hS)
    | (go_at_call 12; with_reducible refine (KF2.out _ hS).mono ?_; rintro e w12 ⟨rfl, hb12⟩; have hS := Below.trans hS (Below.mono hb12 hS.size)))
  have HS12 := Lib.hid hS
  clear hS HC8 KM1 KM2 KF1 KF2 f0 f1 hb9 hb10 hb11 hb12 FA0 FA1 FA2 FA3 FA4 FA5 FA6 FB0 FB1 FB2 FB3 FB4 FB5 FB6 FC0 FC1 FC2 FC3 FC4 FC5 FC6
  generalize hw13 : w12 = w13 at *
  clear hw13
  have r3 := row_low HS12.out ((fun {w : World} {n : Nat} {o : Obj} (h : w.heap[n]? = some o) => (Array.getElem?_eq_some_iff.1 h).1) R3.out) R3.out
  have r4 := row_low HS12.out ((fun {w : World} {n : Nat} {o : Obj} (h : w.heap[n]? = some o) => (Array.getElem?_eq_some_iff.1 h).1) R4.out) R4.out
  have r6 := row_low HS12.out ((fun {w : World} {n : Nat} {o : Obj} (h : w.heap[n]? = some o) => (Array.getElem?_eq_some_iff.1 h).1) R6.out) R6.out
  have hPL := pthL_more HPL.out HS12.out
  have HB13 : Hid (Below w.heap.size w w13) := Lib.hid (HB8.out.trans (Below.mono HS12.out HB8.out.size))
  clear R3 R4 R6 HPL HS12 HB8
  -- the places
  have rP := heap_alloc_new w13 (.cells #[.string ⟨#[74, 70, 75]⟩, .string ⟨#[78, 89, 67]⟩, .string ⟨#[85, 83]⟩, .int .i64 0, .slice none 0 0, .string ⟨#[76, 72, 82]⟩, .string ⟨#[76, 79, 78]⟩, .string ⟨#[71, 66]⟩, .int .i64 0, .slice none 0 0, .string ⟨#[67, 68, 71]⟩, .string ⟨#[80, 65, 82]⟩, .string ⟨#[70, 82]⟩, .int .i64 0, .slice none 0 0, .string ⟨#[76, 71, 87]⟩, .string ⟨#[76, 79, 78]⟩, .string ⟨#[71, 66]⟩, .int .i64 0, .slice none 0 0] airT)
  have hbP := bel_alloc w13 (.cells #[.string ⟨#[74, 70, 75]⟩, .string ⟨#[78, 89, 67]⟩, .string ⟨#[85, 83]⟩, .int .i64 0, .slice none 0 0, .string ⟨#[76, 72, 82]⟩, .string ⟨#[76, 79, 78]⟩, .string ⟨#[71, 66]⟩, .int .i64 0, .slice none 0 0, .string ⟨#[67, 68, 71]⟩, .string ⟨#[80, 65, 82]⟩, .string ⟨#[70, 82]⟩, .int .i64 0, .slice none 0 0, .string ⟨#[76, 71, 87]⟩, .string ⟨#[76, 79, 78]⟩, .string ⟨#[71, 66]⟩, .int .i64 0, .slice none 0 0] airT)
  have hbQ := bel_alloc (w13.alloc (.cells #[.string ⟨#[74, 70, 75]⟩, .string ⟨#[78, 89, 67]⟩, .string ⟨#[85, 83]⟩, .int .i64 0, .slice none 0 0, .string ⟨#[76, 72, 82]⟩, .string ⟨#[76, 79, 78]⟩, .string ⟨#[71, 66]⟩, .int .i64 0, .slice none 0 0, .string ⟨#[67, 68, 71]⟩, .string ⟨#[80, 65, 82]⟩, .string ⟨#[70, 82]⟩, .int .i64 0, .slice none 0 0, .string ⟨#[76, 71, 87]⟩, .string ⟨#[76, 79, 78]⟩, .string ⟨#[71, 66]⟩, .int .i64 0, .slice none 0 0] airT)) (.cells #[.slice (some ⟨w13.heap.size, 0, none⟩) 4 4, .slice none 0 0] placesT)
  have rQ := heap_alloc_new (w13.alloc (.cells #[.string ⟨#[74, 70, 75]⟩, .string ⟨#[78, 89, 67]⟩, .string ⟨#[85, 83]⟩, .int .i64 0, .slice none 0 0, .string ⟨#[76, 72, 82]⟩, .string ⟨#[76, 79, 78]⟩, .string ⟨#[71, 66]⟩, .int .i64 0, .slice none 0 0, .string ⟨#[67, 68, 71]⟩, .string ⟨#[80, 65, 82]⟩, .string ⟨#[70, 82]⟩, .int .i64 0, .slice none 0 0, .string ⟨#[76, 71, 87]⟩, .string ⟨#[76, 79, 78]⟩, .string ⟨#[71, 66]⟩, .int .i64 0, .slice none 0 0] airT)) (.cells #[.slice (some ⟨w13.heap.size, 0, none⟩) 4 4, .slice none 0 0] placesT)
  have hbPQ := hbP.trans (hbQ.mono hbP.size)
  have rP := row_low hbQ ((fun {w : World} {n : Nat} {o : Obj} (h : w.heap[n]? = some o) => (Array.getElem?_eq_some_iff.1 h).1) rP) rP
  go_upto_region 12 with fail
  generalize (w13.alloc (.cells #[.string ⟨#[74, 70, 75]⟩, .string ⟨#[78, 89, 67]⟩, .string ⟨#[85, 83]⟩, .int .i64 0, .slice none 0 0, .string ⟨#[76, 72, 82]⟩, .string ⟨#[76, 79, 78]⟩, .string ⟨#[71, 66]⟩, .int .i64 0, .slice none 0 0, .string ⟨#[67, 68, 71]⟩, .string ⟨#[80, 65, 82]⟩, .string ⟨#[70, 82]⟩, .int .i64 0, .slice none 0 0, .string ⟨#[76, 71, 87]⟩, .string ⟨#[76, 79, 78]⟩, .string ⟨#[71, 66]⟩, .int .i64 0, .slice none 0 0] airT)).alloc (.cells #[.slice (some ⟨w13.heap.size, 0, none⟩) 4 4, .slice none 0 0] placesT) = w14 at *
  clear hbP hbQ
  rw [World.size_alloc] at rQ
  have r3 := row_low hbPQ ((fun {w : World} {n : Nat} {o : Obj} (h : w.heap[n]? = some o) => (Array.getElem?_eq_some_iff.1 h).1) r3) r3
  have r4 := row_low hbPQ ((fun {w : World} {n : Nat} {o : Obj} (h : w.heap[n]? = some o) => (Array.getElem?_eq_some_iff.1 h).1) r4) r4
  have l6 := (fun {w : World} {n : Nat} {o : Obj} (h : w.heap[n]? = some o) => (Array.getElem?_eq_some_iff.1 h).1) r6
  have r6 := row_low hbPQ l6 r6
  have hPL := pthL_more hPL hbPQ
  have z5 := frozen_of_row w14 _ 3 _ _ r6
  have y5 := row_at r6 3 rfl
  have hb6 := (But.setCell w14 N4 3 (.string ⟨#[76, 71, 87]⟩))
  have r8 := heap_setCell_same w14 N4 3 _ sgT (.string ⟨#[76, 71, 87]⟩) r6
  go_upto_region 13 with fail
  have r3 := (hb6.block _ ((fun {w : World} {n : Nat} {o : Obj} (h : w.heap[n]? = some o) => (Array.getElem?_eq_some_iff.1 h).1) r3) (by omega)).trans r3
  have r4 := (hb6.block _ ((fun {w : World} {n : Nat} {o : Obj} (h : w.heap[n]? = some o) => (Array.getElem?_eq_some_iff.1 h).1) r4) (by omega)).trans r4
  have rP := (hb6.block _ ((fun {w : World} {n : Nat} {o : Obj} (h : w.heap[n]? = some o) => (Array.getElem?_eq_some_iff.1 h).1) rP) (by omega)).trans rP
  have rQ := (hb6.block _ ((fun {w : World} {n : Nat} {o : Obj} (h : w.heap[n]? = some o) => (Array.getElem?_eq_some_iff.1 h).1) rQ) (by omega)).trans rQ
  have hPL := pthL_but hPL r6 (by intro i h; cases h) (by intro u hu A n c; simp at hu; rcases hu with rfl | rfl | rfl | rfl | rfl | rfl | rfl <;> exact nofun) (by intro x hx; simp at hx; rcases hx with rfl | rfl <;> exact nofun) hb6
  have hN4 : w.heap.size ≤ N4 := by have := HB2.out.size; omega
  have HB15 : Hid (Below w.heap.size w (w14.setCell ⟨N4, 3, none⟩ (.string ⟨#[76, 71, 87]⟩))) := Lib.hid ((HB13.out.trans (hbPQ.mono HB13.out.size)).trans (hb6.below (Nat.le_trans HB13.out.size hbPQ.size) (fun k hk => by omega)))
  generalize w14.setCell ⟨N4, 3, none⟩ (.string ⟨#[76, 71, 87]⟩) = w15 at *
  clear z5 y5 hb6 r6 hbPQ
  have hAL := k_airR rP
  have FA0 := Lib.hid (bel_get (row_at r3 0 (show _ = some (Value.string ⟨#[66, 65]⟩) from rfl)))
  have FA1 := Lib.hid (bel_get (row_at r3 1 (show _ = some (Value.int .i64 1) from rfl)))
  have FA2 := Lib.hid (bel_get (row_at r3 2 (show _ = some (Value.int .i64 0) from rfl)))
  have FA3 := Lib.hid (bel_get (row_at r3 3 (show _ = some (Value.string ⟨#[74, 70, 75]⟩) from rfl)))
  have FA4 := Lib.hid (bel_get (row_at r3 4 (show _ = some (Value.string ⟨#[76, 72, 82]⟩) from rfl)))
  have FA5 := Lib.hid (bel_get (row_at r3 5 (show _ = some (Value.int .i64 100) from rfl)))
  have FA6 := Lib.hid (bel_get (row_at r3 6 (show _ = some (Value.int .i64 500) from rfl)))
  have FB0 := Lib.hid (bel_get (row_at r4 0 (show _ = some (Value.string ⟨#[66, 65]⟩) from rfl)))
  have FB1 := Lib.hid (bel_get (row_at r4 1 (show _ = some (Value.int .i64 2) from rfl)))
  have FB2 := Lib.hid (bel_get (row_at r4 2 (show _ = some (Value.int .i64 0) from rfl)))
  have FB3 := Lib.hid (bel_get (row_at r4 3 (show _ = some (Value.string ⟨#[76, 72, 82]⟩) from rfl)))
  have FB4 := Lib.hid (bel_get (row_at r4 4 (show _ = some (Value.string ⟨#[67, 68, 71]⟩) from rfl)))
  have FB5 := Lib.hid (bel_get (row_at r4 5 (show _ = some (Value.int .i64 560) from rfl)))
  have FB6 := Lib.hid (bel_get (row_at r4 6 (show _ = some (Value.int .i64 600) from rfl)))
  have FC0 := Lib.hid (bel_get (row_at r8 0 (show _ = some (Value.string ⟨#[66, 65]⟩) from rfl)))
  have FC1 := Lib.hid (bel_get (row_at r8 1 (show _ = some (Value.int .i64 2) from rfl)))
  have FC2 := Lib.hid (bel_get (row_at r8 2 (show _ = some (Value.int .i64 0) from rfl)))
  have FC3 := Lib.hid (bel_get (row_at r8 3 (show _ = some (Value.string ⟨#[76, 71, 87]⟩) from rfl)))
  have FC4 := Lib.hid (bel_get (row_at r8 4 (show _ = some (Value.string ⟨#[67, 68, 71]⟩) from rfl)))
  have FC5 := Lib.hid (bel_get (row_at r8 5 (show _ = some (Value.int .i64 559) from rfl)))
  have FC6 := Lib.hid (bel_get (row_at r8 6 (show _ = some (Value.int .i64 600) from rfl)))
  have FQ0 := Lib.hid (bel_get (row_at rQ 0 (show _ = some (Value.slice (some ⟨w13.heap.size, 0, none⟩) 4 4) from rfl)))
  have FQ1 := Lib.hid (bel_get (row_at rQ 1 (show _ = some (Value.slice none 0 0) from rfl)))
  have KV1 : Hid (∀ W, SW w15 W → Calls Tryd.prog 13 #[.agg #[.slice (some ⟨w13.heap.size, 0, none⟩) 4 4, .slice none 0 0], .slice none 0 0, .slice (some ⟨W.heap.size, 0, none⟩) 2 2] (W.alloc (.cells #[.string ⟨#[66, 65]⟩, .int .i64 1, .int .i64 0, .string ⟨#[74, 70, 75]⟩, .string ⟨#[76, 72, 82]⟩, .int .i64 100, .int .i64 500, .string ⟨#[66, 65]⟩, .int .i64 2, .int .i64 0, .string ⟨#[76, 72, 82]⟩, .string ⟨#[67, 68, 71]⟩, .int .i64 560, .int .i64 600] sgT)) fun e w' => e = .returned (.int .i64 0) ∧ SW w15 w') := Lib.hid (fun W h => by
    have hb := Below.trans h (Below.mono (bel_alloc W (.cells #[.string ⟨#[66, 65]⟩, .int .i64 1, .int .i64 0, .string ⟨#[74, 70, 75]⟩, .string ⟨#[76, 72, 82]⟩, .int .i64 100, .int .i64 500, .string ⟨#[66, 65]⟩, .int .i64 2, .int .i64 0, .string ⟨#[76, 72, 82]⟩, .string ⟨#[67, 68, 71]⟩, .int .i64 560, .int .i64 600] sgT)) h.size)
    have := valid_any (kP (some ⟨w13.heap.size, 0, none⟩)) (.slice none 0 0) [] (.slice (some ⟨W.heap.size, 0, none⟩) 2 2) [kF1, kF2] (W.alloc (.cells #[.string ⟨#[66, 65]⟩, .int .i64 1, .int .i64 0, .string ⟨#[74, 70, 75]⟩, .string ⟨#[76, 72, 82]⟩, .int .i64 100, .int .i64 500, .string ⟨#[66, 65]⟩, .int .i64 2, .int .i64 0, .string ⟨#[76, 72, 82]⟩, .string ⟨#[67, 68, 71]⟩, .int .i64 560, .int .i64 600] sgT)) (k_okV _) (hAL.more hb) ⟨none, 0, rfl, .inl rfl⟩ (by decide) (RowL.new (enc := encSg) (sz := 7) W [kF1, kF2] sgT (fun _ => rfl) rfl 2) (by decide) (fun s hs => k_tm s (by simp at hs; rcases hs with rfl | rfl <;> simp [kS]))
    rw [k_val1] at this
    exact this.mono (by rintro e w' ⟨rfl, h2⟩; exact ⟨rfl, Below.trans hb (Below.mono h2 hb.size)⟩))
  have KV2 : Hid (∀ W, SW w15 W → Calls Tryd.prog 13 #[.agg #[.slice (some ⟨w13.heap.size, 0, none⟩) 4 4, .slice none 0 0], .slice none 0 0, .slice (some ⟨W.heap.size, 0, none⟩) 2 2] (W.alloc (.cells #[.string ⟨#[66, 65]⟩, .int .i64 1, .int .i64 0, .string ⟨#[74, 70, 75]⟩, .string ⟨#[76, 72, 82]⟩, .int .i64 100, .int .i64 500, .string ⟨#[66, 65]⟩, .int .i64 2, .int .i64 0, .string ⟨#[76, 71, 87]⟩, .string ⟨#[67, 68, 71]⟩, .int .i64 559, .int .i64 600] sgT)) fun e w' => e = .returned (.int .i64 13) ∧ SW w15 w') := Lib.hid (fun W h => by
    have hb := Below.trans h (Below.mono (bel_alloc W (.cells #[.string ⟨#[66, 65]⟩, .int .i64 1, .int .i64 0, .string ⟨#[74, 70, 75]⟩, .string ⟨#[76, 72, 82]⟩, .int .i64 100, .int .i64 500, .string ⟨#[66, 65]⟩, .int .i64 2, .int .i64 0, .string ⟨#[76, 71, 87]⟩, .string ⟨#[67, 68, 71]⟩, .int .i64 559, .int .i64 600] sgT)) h.size)
    have := valid_any (kP (some ⟨w13.heap.size, 0, none⟩)) (.slice none 0 0) [] (.slice (some ⟨W.heap.size, 0, none⟩) 2 2) [kF1, kF5] (W.alloc (.cells #[.string ⟨#[66, 65]⟩, .int .i64 1, .int .i64 0, .string ⟨#[74, 70, 75]⟩, .string ⟨#[76, 72, 82]⟩, .int .i64 100, .int .i64 500, .string ⟨#[66, 65]⟩, .int .i64 2, .int .i64 0, .string ⟨#[76, 71, 87]⟩, .string ⟨#[67, 68, 71]⟩, .int .i64 559, .int .i64 600] sgT)) (k_okV _) (hAL.more hb) ⟨none, 0, rfl, .inl rfl⟩ (by decide) (RowL.new (enc := encSg) (sz := 7) W [kF1, kF5] sgT (fun _ => rfl) rfl 2) (by decide) (fun s hs => by simp at hs; rcases hs with rfl | rfl; exact k_tm _ (by simp [kS]); exact k_tm5)
    rw [k_val2] at this
    exact this.mono (by rintro e w' ⟨rfl, h2⟩; exact ⟨rfl, Below.trans hb (Below.mono h2 hb.size)⟩))
  have b1 := bel_alloc w15 (.cells #[.int .i64 3] inT)
  have b2 := bel_alloc (w15.alloc (.cells #[.int .i64 3] inT)) (.cells #[.int .i64 0, .int .i64 1] inT)
  have b3 := bel_alloc ((w15.alloc (.cells #[.int .i64 3] inT)).alloc (.cells #[.int .i64 0, .int .i64 1] inT)) (.cells #[.slice (some ⟨w15.heap.size, 0, none⟩) 1 1, .slice (some ⟨w15.heap.size + 1, 0, none⟩) 2 2] ptT)
  have b23 := b2.trans (b3.mono b2.size)
  have b123 := b1.trans (b23.mono b1.size)
  have x1 := bel_cell b23 (cells_new w15 #[.int .i64 3] inT 0)
  have x2 := bel_cell b3 ((cells_new (w15.alloc (.cells #[.int .i64 3] inT)) #[.int .i64 0, .int .i64 1] inT 0).trans (show _ = some (Value.int .i64 0) from rfl))
  have x3 := bel_cell b3 ((cells_new (w15.alloc (.cells #[.int .i64 3] inT)) #[.int .i64 0, .int .i64 1] inT 1).trans (show _ = some (Value.int .i64 1) from rfl))
  rw [World.size_alloc] at x2 x3
  have hQL : PthL (((w15.alloc (.cells #[.int .i64 3] inT)).alloc (.cells #[.int .i64 0, .int .i64 1] inT)).alloc (.cells #[.slice (some ⟨w15.heap.size, 0, none⟩) 1 1, .slice (some ⟨w15.heap.size + 1, 0, none⟩) 2 2] ptT)) (.slice (some ⟨w15.heap.size + 1 + 1, 0, none⟩) 2 2) [[3], [0, 1]] := by
    refine ⟨[⟨w15.heap.size, 1, [3]⟩, ⟨w15.heap.size + 1, 2, [0, 1]⟩], rfl, ?_, fun x hx => ?_⟩
    · have := RowL.new (enc := encPt) (sz := 1) ((w15.alloc (.cells #[.int .i64 3] inT)).alloc (.cells #[.int .i64 0, .int .i64 1] inT)) [⟨w15.heap.size, 1, [3]⟩, ⟨w15.heap.size + 1, 2, [0, 1]⟩] ptT (fun _ => rfl) (cs := #[.slice (some ⟨w15.heap.size, 0, none⟩) 1 1, .slice (some ⟨w15.heap.size + 1, 0, none⟩) 2 2]) rfl 2
      rw [World.size_alloc, World.size_alloc] at this
      exact this
    · simp at hx
      rcases hx with rfl | rfl
      · refine ⟨by simp; omega, fun i k hk => ?_⟩
        match i, hk with
        | 0, hk => cases hk; exact x1
      · refine ⟨by simp, fun i k hk => ?_⟩
        match i, hk with
        | 0, hk => cases hk; exact x2
        | 1, hk => cases hk; exact x3
  have KS := Lib.hid (same_any v8 _ [[3], [0, 1]] _ (pthL_more hPL b123) hQL (by decide) (by decide))
  clear x1 x2 x3 b1 b2 b3 b23 hQL hPL hAL r3 r4 r8 rP rQ HB13 HC2 HB2
  go_wp2_with (first
    | (go_at_call 9; refine KS.out.mono ?_; rintro e w19 ⟨rfl, hb19⟩; have hS : SW w15 w19 := Below.trans b123 (Below.mono hb19 b123.size); have q0 := FQ0.out _ hS; have q1 := FQ1.out _ hS; have a0 := FA0.out _ hS; have a1 := FA1.out _ hS; have a2 := FA2.out _ hS; have a3 := FA3.out _ hS; have a4 := FA4.out _ hS; have a5 := FA5.out _ hS; have a6 := FA6.out _ hS; have b0 := FB0.out _ hS; have b1 := FB1.out _ hS; have b2 := FB2.out _ hS; have b3 := FB3.out _ hS; have b4 := FB4.out _ hS; have b5 := FB5.out _ hS; have b6 := FB6.out _ hS)
    | (go_at_call 13; with_reducible refine (KV1.out _ hS).mono ?_; rintro e w20 ⟨rfl, hS⟩; have q0 := FQ0.out _ hS; have q1 := FQ1.out _ hS; have a0 := FA0.out _ hS; have a1 := FA1.out _ hS; have a2 := FA2.out _ hS; have a3 := FA3.out _ hS; have a4 := FA4.out _ hS; have a5 := FA5.out _ hS; have a6 := FA6.out _ hS; have c0 := FC0.out _ hS; have c1 := FC1.out _ hS; have c2 := FC2.out _ hS; have c3 := FC3.out _ hS; have c4 := FC4.out _ hS; have c5 := FC5.out _ hS; have c6 := FC6.out _ hS)
    | (go_at_call 13; with_reducible refine (KV2.out _ hS).mono ?_; rintro e w21 ⟨rfl, hS⟩))
  go_ret
  exact ⟨rfl, HB15.out.trans (Below.mono hS HB15.out.size)⟩
end Go.Proofs.YtkcdifanhdakhaaDoor.Con
