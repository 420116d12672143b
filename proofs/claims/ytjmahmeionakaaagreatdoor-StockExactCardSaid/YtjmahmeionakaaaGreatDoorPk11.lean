/- Words and walks that the laws below ask: KitM. -/
import Derived.Deep.OwnRows
import Derived.Deep.LoopGhost
import Derived.BigQuiet
import Derived.Deep.CutRange
import Derived.Deep.CutBlock
import Derived.RangeFuncNested
import Derived.RangeFuncBound
import Derived.RangeFuncCalls
import Derived.RangeFuncLeaves
import Derived.RangeFuncBox
import Derived.Shelf.Abstract
import Derived.Shelf.RegionOpen
import Derived.WalkKit
import Derived.OwnWalkIn
import Derived.TacticsInMore
import Derived.LoopNIn
import Derived.LoopIn
import Derived.Maps.AppendAt
import Derived.Sort.QuietIn
import Derived.Sort.BigQuietIn
import Derived.RangeFuncWrites
import Derived.Test.YtjmahmeionakaaaGreatDoorPk10
/- The contracts of package nest and of its reference. -/
namespace Go.Proofs.YtjmahmeionakaaaGreatDoor
open Go.RowKit Go.Shelf
attribute [local go_sem] maxIf minIf
set_option linter.unusedSimpArgs false
set_option linter.unusedVariables false

def sumI : List Int → Int
  | [] => 0
  | x :: r => x + sumI r
theorem sumI_app (a b : List Int) : sumI (a ++ b) = sumI a + sumI b := by
  induction a with
  | nil => simp [sumI]
  | cons x r ih => simp only [List.cons_append, sumI, ih]; omega
/-- a number of seats that can be sold -/
def nOk (n : Int) : Bool := decide (0 ≤ n) && decide (n ≤ 9999)
def nBad (n : Int) : Bool := decide (n < 0) || decide (9999 < n)
theorem nBad_ok (n : Int) : nBad n = !nOk n := by
  unfold nBad nOk
  rw [Bool.eq_iff_iff]
  simp only [Bool.or_eq_true, decide_eq_true_eq, Bool.not_eq_true', Bool.and_eq_false_iff, decide_eq_false_iff_not]
  omega
def rgtB (b : Cb) (s : List Int) : Bool := decide (s.length = b.l.length) && s.all nOk
theorem rgtB_yes {b : Cb} {s : List Int} (h : rgtB b s = true) : s.length = b.l.length ∧ ∀ x ∈ s, 0 ≤ x ∧ x ≤ 9999 := by
  simp only [rgtB, Bool.and_eq_true, decide_eq_true_eq, List.all_eq_true, nOk] at h
  exact h
/-- the nested sales of the class i -/
def nsF (s : List Int) (i : Nat) : Int := sumI (s.drop i)
theorem nsF_end (s : List Int) (i : Nat) (h : s.length ≤ i) : nsF s i = 0 := by
  unfold nsF
  rw [List.drop_eq_nil_of_le h]; rfl
theorem nsF_step (s : List Int) (i : Nat) (x : Int) (h : s[i]? = some x) : nsF s i = x + nsF s (i + 1) := by
  unfold nsF
  obtain ⟨hi, rfl⟩ := List.getElem?_eq_some_iff.1 h
  rw [List.drop_eq_getElem_cons hi]; rfl
theorem sumI_in (s : List Int) (h : ∀ x ∈ s, 0 ≤ x ∧ x ≤ 9999) : 0 ≤ sumI s ∧ sumI s ≤ 9999 * s.length := by
  induction s with
  | nil => simp [sumI]
  | cons x r ih =>
    have h1 := h x (List.mem_cons_self ..)
    have h2 := ih (fun y hy => h y (List.mem_cons_of_mem _ hy))
    simp only [sumI, List.length_cons]
    omega
theorem nsF_in (s : List Int) (h : ∀ x ∈ s, 0 ≤ x ∧ x ≤ 9999) (i : Nat) : 0 ≤ nsF s i ∧ nsF s i ≤ 9999 * s.length := by
  have h1 := sumI_in (s.drop i) (fun x hx => h x (List.mem_of_mem_drop hx))
  unfold nsF
  rw [List.length_drop] at h1
  omega
/-- what is left of the limit of the class i -/
def leF (b : Cb) (s : List Int) (i : Nat) : Int := limA b i - nsF s i
theorem limA_in {b : Cb} (hP : LimP b) (i : Nat) : -1998 ≤ limA b i ∧ limA b i ≤ 1998 := by
  obtain ⟨s1, s2, s3, s4⟩ := sizB_in hP.siz
  cases i with
  | zero => simp only [limA]; omega
  | succ k =>
    simp only [limA]
    split
    · rename_i x hx
      have := hP.pro x (List.mem_of_getElem? hx)
      omega
    · omega
theorem leF_in {b : Cb} {s : List Int} (hP : LimP b) (h : rgtB b s = true) (i : Nat) : -400000 ≤ leF b s i ∧ leF b s i ≤ 400000 := by
  obtain ⟨h1, h2⟩ := rgtB_yes h
  have h3 := nsF_in s h2 i
  have h4 := limA_in hP i
  have h5 := hP.len
  unfold leF
  omega
/-- the least of the first k numbers; of none the greatest number that there is -/
def lsM (f : Nat → Int) : Nat → Int
  | 0 => 9223372036854775807
  | k + 1 => min (lsM f k) (f k)
theorem lsM_le (f : Nat → Int) : ∀ (n k : Nat), k < n → lsM f n ≤ f k
  | 0, k, h => by omega
  | n + 1, k, h => by
    simp only [lsM]
    by_cases e : k = n
    · subst e; omega
    · have := lsM_le f n k (by omega); omega
/-- the seats for sale in the class i -/
def opF (b : Cb) (s : List Int) (i : Nat) : Int := max (lsM (leF b s) (i + 1)) 0
def opL (b : Cb) (s : List Int) : List Int := if rgtB b s = true then tab (opF b s) s.length else []
/-- by how much the first k numbers are below 0 at most -/
def exF (f : Nat → Int) : Nat → Int
  | 0 => 0
  | k + 1 => max (exF f k) (-f k)
theorem exF_ge (f : Nat → Int) : ∀ n : Nat, 0 ≤ exF f n
  | 0 => Int.le_refl _
  | n + 1 => by have := exF_ge f n; simp only [exF]; omega
theorem exF_zero (f : Nat → Int) : ∀ n : Nat, exF f n = 0 ↔ ∀ k, k < n → 0 ≤ f k
  | 0 => ⟨fun _ k hk => by omega, fun _ => rfl⟩
  | n + 1 => by
    have h0 := exF_ge f n
    have ih := exF_zero f n
    simp only [exF]
    constructor
    · intro h k hk
      by_cases e : k = n
      · subst e; omega
      · exact (ih.1 (by omega)) k (by omega)
    · intro h
      have h1 := ih.2 (fun k hk => h k (by omega))
      have h2 := h n (by omega)
      omega
def exP (b : Cb) (s : List Int) : Int := if rgtB b s = true then exF (leF b s) s.length else 0
def fitB (b : Cb) (s : List Int) : Bool := rgtB b s && decide (exP b s = 0)
theorem fitB_iff (b : Cb) (s : List Int) : fitB b s = true ↔ rgtB b s = true ∧ ∀ k, k < s.length → 0 ≤ leF b s k := by
  unfold fitB exP
  rw [Bool.and_eq_true, decide_eq_true_eq]
  constructor
  · rintro ⟨h1, h2⟩
    rw [if_pos h1] at h2
    exact ⟨h1, (exF_zero _ _).1 h2⟩
  · rintro ⟨h1, h2⟩
    refine ⟨h1, ?_⟩
    rw [if_pos h1]
    exact (exF_zero _ _).2 h2
/-- the numbers with n more of one class -/
def wiL (s : List Int) (k : Nat) (n : Int) : List Int := s.set k ((s[k]?).getD 0 + n)
theorem wiL_len (s : List Int) (k : Nat) (n : Int) : (wiL s k n).length = s.length := by simp [wiL]
end Go.Proofs.YtjmahmeionakaaaGreatDoor

namespace Go.Proofs.YtjmahmeionakaaaGreatDoor
open Go.RowKit Go.Shelf
attribute [local go_sem] maxIf minIf
set_option linter.unusedSimpArgs false
set_option linter.unusedVariables false

set_option maxHeartbeats 4000000 in
set_option maxRecDepth 100000 in
theorem idxI_any (g : Nat) (cb : Array Value) (A : Option Addr) (c : Nat) (l : List Int) (p : Int → Bool) (w : World) (eg : ∀ args w, (callFunc g args).run Tryz.prog w = .ok (.enter g args) w) (hl : l.length ≤ 1000) (hL : RowL 1 encI w (.slice A l.length c) l)
    (hf : ∀ (a : Int) (W : World), a ∈ l → Below w.heap.size w W → Calls Tryz.prog g (#[.int .i64 a] ++ cb) W fun e w' => e = .returned (.bool (p a)) ∧ Below W.heap.size W w') :
    Calls Tryz.prog 145 #[.slice A l.length c, .func (.func g) #[] cb] w fun e w' => e = .returned (.int .i64 (idxQ p l)) ∧ Below w.heap.size w w' := by
  have HF := Lib.hid hf
  have HI : Hid (∀ (k : Nat) (a : Int), (∀ (j : Nat) (x : Int), j < k → l[j]? = some x → p x = false) → l[k]? = some a → p a = true → idxQ p l = (k : Int)) := Lib.hid (fun k a => idxQ_yes)
  have HN : Hid ((∀ (j : Nat) (x : Int), l[j]? = some x → p x = false) → idxQ p l = -1) := Lib.hid idxQ_no
  have HL := Lib.hid hL
  clear hf hL
  generalize idxQ p l = r at *
  go_enter Tryz.func145, Tryz.ntmps145
  go_wp2
  go_loopw [8] (fun vi wr => ∃ k : Nat, k ≤ l.length ∧ vi = .int .i64 k ∧ Hid (∀ (j : Nat) (x : Int), j < k → l[j]? = some x → p x = false) ∧ Below w.heap.size w wr) (fun vi _ => l.length - (intOf vi).toNat)
  case atStart => exact ⟨0, Nat.zero_le _, rfl, Lib.hid (fun j x hj => absurd hj (Nat.not_lt_zero _)), Below.refl _ _⟩
  case round =>
    obtain ⟨k, hk, rfl, HK, hb⟩ := hrel
    by_cases hlt : k < l.length
    · obtain ⟨a, hka⟩ : ∃ a, l[k]? = some a := ⟨_, List.getElem?_eq_getElem hlt⟩
      obtain ⟨b, off, e1, hgl, ha⟩ := row_get (HL.out.more hb) hka
      cases e1
      have i2 : (k : Int) < (l.length : Int) := by omega
      have z0 := ha 0 _ rfl
      rw [Nat.mul_one, Nat.add_zero] at z0
      have hc := HF.out a wr (List.mem_of_getElem? hka) hb
      clear ha hgl
      cases hp : p a <;> rw [hp] at hc
      · have HP := Lib.hid hp
        have HA := Lib.hid hka
        clear hp hka
        go_wp2_with (refine hc.mono ?_; rintro e w' ⟨rfl, hb'⟩)
        go_roundw
        case rel =>
          refine ⟨k + 1, by omega, by go_num, Lib.hid (fun j x hj hx => ?_), hb.trans (hb'.mono hb.size)⟩
          by_cases hjk : j = k
          · subst hjk
            rw [HA.out] at hx
            cases hx
            exact HP.out
          · exact HK.out j x (by omega) hx
        case measure => simp [intOf]; omega
      · have HR := Lib.hid (HI.out k a HK.out hka hp)
        clear hp hka
        go_wp2_with (refine hc.mono ?_; rintro e w' ⟨rfl, hb'⟩)
        go_ret
        exact ⟨by rw [HR.out]; rfl, hb.trans (hb'.mono hb.size)⟩
    · have HR := Lib.hid (HN.out (fun j x hx => HK.out j x (by have := (List.getElem?_eq_some_iff.1 hx).1; omega) hx))
      go_wp2
      go_ret
      exact ⟨by rw [HR.out]; rfl, hb⟩

set_option maxRecDepth 100000 in
set_option maxHeartbeats 8000000 in
theorem limits_own (b : Cb) (w : World) (hb : CbAt w b) (hP : LimP b) : Calls Tryz.prog 131 #[aggCb b] w fun e w' => ∃ g c, e = .returned (.slice (some ⟨g, 0, none⟩) b.l.length c) ∧ w.heap.size ≤ g ∧ Row w' g (tab (limA b) b.l.length) ∧ Below w.heap.size w w' := by
  have hlen := hP.len
  obtain ⟨s1, s2, s3, s4⟩ := sizB_in hP.siz
  have HP := Lib.hid hP
  obtain ⟨i0, hi, hz0, hz1, hz2⟩ := info_parts intT
  have HI := Lib.hid hi
  have HZ0 := Lib.hid hz0
  have HZ1 := Lib.hid hz1
  have HZ2 := Lib.hid hz2
  obtain ⟨A, hA⟩ : ∃ A, A = b.A := ⟨_, rfl⟩
  have HB : Hid (ClL w (.slice A b.l.length b.c) b.l) := Lib.hid (by rw [hA]; exact hb)
  obtain ⟨vs, hvs⟩ : ∃ vs : List Value, vs = [.string b.name, .int .i64 b.seats, .int .i64 b.over, .slice A b.l.length b.c] := ⟨_, rfl⟩
  have KA : Hid (∀ W, Calls Tryz.prog 80 #[.agg #[.string b.name, .int .i64 b.seats, .int .i64 b.over, .slice A b.l.length b.c]] W fun e w' => e = .returned (.int .i64 (b.seats + b.over)) ∧ Below W.heap.size W w') := Lib.hid (fun W => by rw [hA]; exact auth_any b W hP.siz)
  have hbA := bel_alloc w (.cells #[.string b.name, .int .i64 b.seats, .int .i64 b.over, .slice A b.l.length b.c] cbT)
  have hbB := bel_alloc (w.alloc (.cells #[.string b.name, .int .i64 b.seats, .int .i64 b.over, .slice A b.l.length b.c] cbT)) (.cells (madeCells #[.int .i64 0] b.l.length) 3)
  have q0 : ∀ j y, vs[j]? = some y → ((w.alloc (.cells #[.string b.name, .int .i64 b.seats, .int .i64 b.over, .slice A b.l.length b.c] cbT)).alloc (.cells (madeCells #[.int .i64 0] b.l.length) 3)).cell? ⟨w.heap.size, j, none⟩ = some y := fun j y hy => bel_cell hbB ((cells_new w _ cbT j).trans (by rw [← hy, hvs]; simp))
  have qr := Row.made (w.alloc (.cells #[.string b.name, .int .i64 b.seats, .int .i64 b.over, .slice A b.l.length b.c] cbT)) b.l.length 3
  rw [World.size_alloc] at qr
  obtain ⟨Z, hZ⟩ : ∃ Z, Z = w.heap.size := ⟨_, rfl⟩
  have LW : LimW w Z (Z + 1) vs (tab (fun j => if j < 0 then limA b j else 0) b.l.length) ((w.alloc (.cells #[.string b.name, .int .i64 b.seats, .int .i64 b.over, .slice A b.l.length b.c] cbT)).alloc (.cells (madeCells #[.int .i64 0] b.l.length) 3)) := ⟨by rw [hZ]; exact q0, by rw [hZ, tab_zero]; exact qr, hbA.trans (hbB.mono hbA.size)⟩
  have y3 := (cells_new w #[.string b.name, .int .i64 b.seats, .int .i64 b.over, .slice A b.l.length b.c] cbT 3).trans (show _ = some (Value.slice A b.l.length b.c) from rfl)
  clear hb hi hz0 hz1 hz2 hbA hbB q0 qr hP
  rw [show aggCb b = .agg #[.string b.name, .int .i64 b.seats, .int .i64 b.over, .slice A b.l.length b.c] by rw [hA]]
  have HVS := Lib.hid hvs
  clear hA hvs
  obtain ⟨n, hn⟩ : ∃ n, n = b.l.length := ⟨_, rfl⟩
  have HN := Lib.hid hn
  rw [← hn] at hlen LW KA HB y3 HVS ⊢
  clear hn
  go_enter Tryz.func131, Tryz.ntmps131
  go_upto_region 2 with (at_make; refine wpList_make_row _ rfl _ _ 98 rfl 3 i0 (.int .i64 0) Tryz.underlying98 HI.out HZ0.out HZ1.out rfl _ _ n rfl rfl (by rw [HZ2.out]; omega) (by omega) ?_)
  rw [← hZ]
  have HZ := Lib.hid hZ
  have HLW := Lib.hid LW
  generalize (w.alloc (.cells #[.string b.name, .int .i64 b.seats, .int .i64 b.over, .slice A n b.c] cbT)).alloc (.cells (madeCells #[.int .i64 0] n) 3) = w5 at *
  clear hZ LW y3
  have b0 := HLW.out.box 0 _ (by rw [HVS.out]; rfl)
  have b1 := HLW.out.box 1 _ (by rw [HVS.out]; rfl)
  have b2 := HLW.out.box 2 _ (by rw [HVS.out]; rfl)
  have b3 := HLW.out.box 3 _ (by rw [HVS.out]; rfl)
  go_upto_region 3 with (go_at_call 80; refine (KA.out _).mono ?_; rintro e w6 ⟨rfl, hb6⟩)
  have HLW := Lib.hid (HLW.out.more hb6)
  have b3 := bel_cell hb6 b3
  clear b0 b1 b2 hb6
  go_wp2
  clear b3
  go_loopw [4, 16] (fun s4 vi wr => ∃ k : Nat, k ≤ n ∧ vi = .int .i64 k ∧ s4 = .int .i64 (limA b k) ∧ Hid (LimW w Z (Z + 1) vs (tab (fun j => if j < k then limA b j else 0) n) wr)) (fun _ vi _ => n - (intOf vi).toNat)
  case atStart => exact ⟨0, Nat.zero_le _, rfl, rfl, HLW⟩
  case round =>
    obtain ⟨k, hk, rfl, rfl, HK⟩ := hrel
    clear HLW
    by_cases hlt : k < n
    · obtain ⟨x, hx⟩ : ∃ x, b.l[k]? = some x := ⟨_, List.getElem?_eq_getElem (by have := HN.out; omega)⟩
      obtain ⟨bb, off, e1, hgl, hc⟩ := row_get (HB.out.more HK.out.bel) hx
      cases e1
      have i2 : (k : Int) < (n : Int) := by omega
      have d0 := hc 0 _ rfl
      have d1 := hc 1 _ rfl
      rw [Nat.add_zero] at d0
      obtain ⟨p1, p2⟩ := HP.out.pro x (List.mem_of_getElem? hx)
      have HX : Hid (limA b (k + 1) = b.seats + b.over - x.prot) := Lib.hid (by simp only [limA, hx])
      have HNB : Hid (LimW w Z (Z + 1) vs (tab (fun j => if j < k + 1 then limA b j else 0) n) ((wr.alloc (.cells #[.string x.code, .int .i64 x.prot] clT)).setCell ⟨Z + 1, k, none⟩ (.int .i64 (limA b k)))) := Lib.hid (by
        have h := (HK.out.more (bel_alloc wr (.cells #[.string x.code, .int .i64 x.prot] clT))).set (by omega) (by have := HZ.out; omega) k (by rw [tab_len]; exact hlt) (limA b k)
        rw [tab_put n k _ hlt] at h
        exact h)
      have hr0 : (wr.alloc (.cells #[.string x.code, .int .i64 x.prot] clT)).cell? ⟨Z + 1, k, none⟩ = some (.int .i64 0) := by
        have h := (HK.out.row.alloc (.cells #[.string x.code, .int .i64 x.prot] clT)).cell k (by rw [tab_len]; exact hlt)
        simpa [tab] using h
      have hr1 : (wr.alloc (.cells #[.string x.code, .int .i64 x.prot] clT)).frozen? ⟨Z + 1, k, none⟩ = false := (HK.out.row.alloc (.cells #[.string x.code, .int .i64 x.prot] clT)).froz k (by rw [tab_len]; exact hlt)
      have n1 : ((wr.alloc (.cells #[.string x.code, .int .i64 x.prot] clT)).setCell ⟨Z + 1, k, none⟩ (.int .i64 (limA b k))).cell? ⟨wr.heap.size, 1, none⟩ = some (.int .i64 x.prot) := by
        rw [World.cell?_setCell_other _ _ _ _ (by intro e; simp only [Addr.mk.injEq] at e; have := HK.out.row.lt; omega)]
        exact cells_new wr _ clT 1
      obtain ⟨NB, hNB⟩ : ∃ NB, NB = wr.heap.size := ⟨_, rfl⟩
      rw [← hNB] at n1
      clear hc hgl hx
      generalize limA b k = lk at *
      go_upto_region 7 with fail
      rw [← hNB]
      clear d0 d1 hr0 hr1 hNB
      generalize (wr.alloc (.cells #[.string x.code, .int .i64 x.prot] clT)).setCell ⟨Z + 1, k, none⟩ (.int .i64 lk) = w7 at *
      have g0 : ∀ z : Wd (SW w7), z.w.cell? ⟨Z, 0, none⟩ = some (Value.string b.name) := fun z => bel_get (HNB.out.box 0 _ (by rw [HVS.out]; rfl)) _ z.ok
      have g1 : ∀ z : Wd (SW w7), z.w.cell? ⟨Z, 1, none⟩ = some (Value.int .i64 b.seats) := fun z => bel_get (HNB.out.box 1 _ (by rw [HVS.out]; rfl)) _ z.ok
      have g2 : ∀ z : Wd (SW w7), z.w.cell? ⟨Z, 2, none⟩ = some (Value.int .i64 b.over) := fun z => bel_get (HNB.out.box 2 _ (by rw [HVS.out]; rfl)) _ z.ok
      have g3 : ∀ z : Wd (SW w7), z.w.cell? ⟨Z, 3, none⟩ = some (Value.slice (some ⟨bb, off, none⟩) n b.c) := fun z => bel_get (HNB.out.box 3 _ (by rw [HVS.out]; rfl)) _ z.ok
      have g4 : ∀ z : Wd (SW w7), z.w.cell? ⟨NB, 1, none⟩ = some (Value.int .i64 x.prot) := fun z => bel_get n1 _ z.ok
      have KQ : Hid (∀ W, SW w7 W → Calls Tryz.prog 80 #[.agg #[.string b.name, .int .i64 b.seats, .int .i64 b.over, .slice (some ⟨bb, off, none⟩) n b.c]] W fun e w' => e = .returned (.int .i64 (b.seats + b.over)) ∧ SW w7 w') := Lib.hid (fun W h => (KA.out W).mono (by rintro e w' ⟨rfl, hb⟩; exact ⟨rfl, Below.trans h (Below.mono hb h.size)⟩))
      have hS0 : SW w7 w7.drew := SW.drew _
      have hw : IntKind.i64.wrap (b.seats + b.over - x.prot) = b.seats + b.over - x.prot := by rw [IntKind.wrap_i64]; omega
      have hNe : Nonempty (Wd (SW w7)) := ⟨⟨_, hS0⟩⟩
      refine quietS (S := SW w7) (by kernel_rfl) (by kernel_rfl) (hS0) ?_
      repeat (first | go_big_quiet_skip | (go_big_quiet_want; go_big_quiet_op; first | go_big_quiet_on | go_big_quiet_call (((go_at_call 80; exact quiet_S (KQ.out _ (Wd.ok _)))))))
      refine wpQuiet_nil ?_
      rintro W ⟨⟨_, hW⟩, rfl⟩
      have HY := Lib.hid (HNB.out.more hW)
      clear g0 g1 g2 g3 g4 hW n1
      go_wp2
      go_roundw
      case rel => exact ⟨k + 1, by omega, by go_num, by rw [HX.out], HY⟩
      case measure => simp [intOf]; omega
    · have HE : Hid (k = n) := Lib.hid (by omega)
      have HR : Hid (w.heap.size ≤ Z + 1 ∧ Row wr (Z + 1) (tab (limA b) n) ∧ Below w.heap.size w wr) := Lib.hid (by
        have h := HK.out.row
        rw [HE.out, tab_full] at h
        exact ⟨by have := HZ.out; omega, h, HK.out.bel⟩)
      go_wp2
      go_ret
      exact ⟨_, _, rfl, HR.out⟩

theorem idxQ_all (s : List Int) : decide (0 ≤ idxQ nBad s) = !(s.all nOk) := by
  rcases idxQ_find nBad s with ⟨h1, _, h3⟩ | ⟨k, a, h1, h2, _, _, h5, _⟩
  · rw [h1]
    have : s.all nOk = true := by
      rw [List.all_eq_true]
      intro x hx
      obtain ⟨j, hj, rfl⟩ := List.getElem_of_mem hx
      have := h3 j _ (List.getElem?_eq_getElem hj)
      rw [nBad_ok] at this
      simpa using this
    rw [this]; rfl
  · rw [h1]
    have : s.all nOk = false := by
      rw [Bool.eq_false_iff]
      intro h
      have := (List.all_eq_true.1 h) a (List.mem_of_getElem? h2)
      rw [nBad_ok, this] at h5
      cases h5
    rw [this]; simp
set_option maxHeartbeats 1000000 in
theorem isBad_any (n : Int) (w : World) : Calls Tryz.prog 130 #[.int .i64 n] w fun e w' => e = .returned (.bool (nBad n)) ∧ Below w.heap.size w w' := by
  by_cases h : n < 0
  · have h1 : nBad n = true := by unfold nBad; simp [h]
    rw [h1]
    go_enter Tryz.func130, Tryz.ntmps130
    go_wp2
    go_ret
    exact ⟨rfl, Below.refl _ _⟩
  · have h1 : nBad n = decide (9999 < n) := by unfold nBad; simp [h]
    rw [h1]
    go_enter Tryz.func130, Tryz.ntmps130
    go_wp2
    go_ret
    exact ⟨rfl, Below.refl _ _⟩
set_option maxHeartbeats 1000000 in
theorem anyBad_any (A : Option Addr) (c : Nat) (s : List Int) (w : World) (hl : s.length ≤ 1000) (hL : IntR w (.slice A s.length c) s) :
    Calls Tryz.prog 129 #[.slice A s.length c, .func (.func 130) #[] #[]] w fun e w' => e = .returned (.bool (!(s.all nOk))) ∧ Below w.heap.size w w' := by
  have K := Lib.hid (idxI_any 130 #[] A c s nBad w (enters_of Tryz.func130 (by kernel_rfl) rfl) hl hL (fun a W _ _ => isBad_any a W))
  have HQ := Lib.hid (idxQ_all s)
  generalize idxQ nBad s = r at *
  clear hL
  go_enter Tryz.func129, Tryz.ntmps129
  go_wp2_with (go_at_call 145; refine K.out.mono ?_; rintro e w' ⟨rfl, hb⟩)
  go_ret
  exact ⟨by rw [← HQ.out]; rfl, hb⟩
set_option maxRecDepth 100000 in
set_option maxHeartbeats 2000000 in
theorem isRight_any (b : Cb) (A : Option Addr) (c : Nat) (s : List Int) (w : World) (hl : s.length ≤ 1000) (hL : IntR w (.slice A s.length c) s) :
    Calls Tryz.prog 104 #[aggCb b, .slice A s.length c] w fun e w' => e = .returned (.bool (rgtB b s)) ∧ Below w.heap.size w w' := by
  have hb0 := bel_alloc w (.cells #[.string b.name, .int .i64 b.seats, .int .i64 b.over, .slice b.A b.l.length b.c] cbT)
  have q3 := (cells_new w #[.string b.name, .int .i64 b.seats, .int .i64 b.over, .slice b.A b.l.length b.c] cbT 3).trans (show _ = some (Value.slice b.A b.l.length b.c) from rfl)
  have KC := Lib.hid (anyBad_any A c s _ hl (hL.more hb0))
  have HB := Lib.hid hb0
  clear hL hb0
  by_cases h : s.length = b.l.length
  · have e1 : ((s.length : Int) == (b.l.length : Int)) = true := by simp [h]
    have HE : Hid (rgtB b s = s.all nOk) := Lib.hid (by unfold rgtB; simp [h])
    rw [HE.out]
    clear h HE
    generalize s.all nOk = r at *
    go_enter Tryz.func104, Tryz.ntmps104
    go_wp2_with (go_at_call 129; refine KC.out.mono ?_; rintro e w' ⟨rfl, hb⟩)
    go_ret
    exact ⟨by simp, HB.out.trans (hb.mono HB.out.size)⟩
  · have e1 : ((s.length : Int) == (b.l.length : Int)) = false := by simp; omega
    have HE : Hid (rgtB b s = false) := Lib.hid (by unfold rgtB; simp [h])
    rw [HE.out]
    clear h HE
    go_enter Tryz.func104, Tryz.ntmps104
    go_wp2_with (fail)
    go_ret
    exact ⟨rfl, HB.out⟩
end Go.Proofs.YtjmahmeionakaaaGreatDoor

namespace Go.Proofs.YtjmahmeionakaaaGreatDoor
open Go.RowKit Go.Shelf
attribute [local go_sem] maxIf minIf
set_option linter.unusedSimpArgs false
set_option linter.unusedVariables false
attribute [local go_sem] Oper.semAt_some

theorem wide_fn (f : Nat) : Fence.wide.fn f := trivial
attribute [local simp] wide_fn
abbrev insT : TypeId := 98
abbrev inT : TypeId := 3
/-- a place of the list, with what is there -/
abbrev Bk (s : List Int) := { x : Nat × Int // s[x.1]? = some x.2 }
abbrev encB {s : List Int} (x : Bk s) : Array Value := #[.int .i64 (x.1.1 : Int), .int .i64 x.1.2]
/-- what a round keeps -/
def KpB (n₀ B : Nat) (W W' : World) : Prop := Below n₀ W W' ∧ W'.heap[B]? = W.heap[B]?
theorem kp_t {n₀ B : Nat} {X Y Z : World} (h : KpB n₀ B X Y) (k : KpB n₀ B Y Z) : KpB n₀ B X Z := ⟨h.1.trans k.1, k.2.trans h.2⟩
theorem kp_b {n₀ B : Nat} {w : World} (hn : n₀ ≤ w.heap.size) (hB : B < w.heap.size) (W : World) (l : Nat) (o o' : Obj) (hl : w.heap.size ≤ l) (h : W.heap[l]? = some o) (h1 : o.isCells = false) (h2 : o.isWalk = false) : KpB n₀ B W (W.putObj l o') :=
  ⟨belowK_b hn W l o o' hl h h1 h2, World.putObj_heap_other (by omega)⟩
theorem grown_of_below {W W' : World} (h : Below W.heap.size W W') : W.grownBy W' none := ⟨h.os, h.tape, h.output, h.size, fun k hk _ => h.block k hk⟩
theorem abide_below {β : Type} {B : Nat} {J : β → World → Prop} (hJ : AbidesFrom B J) {s : β} {W W' : World} (h : J s W) (hb : Below W.heap.size W W') : J s W' :=
  hJ s W W' none h (grown_of_below hb) (fun r e => by cases e)
theorem boxed_more {W W' : World} {B : Nat} {t : TypeId} {v : Value} (h : Boxed W B t v) (hb : Below W.heap.size W W') : Boxed W' B t v := (hb.block B h.lt).trans h
theorem zip_two (t : Array Value) (n m : Nat) (u v : Value) : Array.foldl (fun (t : Array Value) (x : Nat × Value) => t.setIfInBounds x.1 x.2) t (#[n, m].zip #[u, v]) = (t.setIfInBounds n u).setIfInBounds m v := by simp
/-- the places that have come; the first k that come -/
def bks {s : List Int} (l : List (Bk s)) : List Nat := l.map (fun x => x.1.1)
theorem bks_snoc {s : List Int} (l : List (Bk s)) (x : Bk s) : bks (l ++ [x]) = bks l ++ [x.1.1] := by simp [bks]
theorem bks_len {s : List Int} (l : List (Bk s)) : (bks l).length = l.length := by simp [bks]
def dn (n : Nat) : Nat → List Nat
  | 0 => []
  | k + 1 => dn n k ++ [n - 1 - k]
theorem dn_len (n : Nat) : ∀ k, (dn n k).length = k
  | 0 => rfl
  | k + 1 => by simp [dn, dn_len n k]
/-- the numbers s lie in a row below n₀ -/
def InB (n₀ : Nat) (W : World) (A : Option Addr) (s : List Int) : Prop := s = [] ∨ ∃ b o, A = some ⟨b, o, none⟩ ∧ b < n₀ ∧ b < W.heap.size ∧ ∀ (k : Nat) (x : Int), s[k]? = some x → W.cell? ⟨b, o + k, none⟩ = some (.int .i64 x)
theorem InB.more {n₀ : Nat} {W W' : World} {A : Option Addr} {s : List Int} (h : InB n₀ W A s) (hb : Below n₀ W W') : InB n₀ W' A s := by
  rcases h with h | ⟨b, o, e, h1, h2, h3⟩
  · exact .inl h
  · exact .inr ⟨b, o, e, h1, Nat.lt_of_lt_of_le h2 hb.size, fun k x hk => (hb.cell (p := ⟨b, o + k, none⟩) h1).trans (h3 k x hk)⟩
theorem inB_of {W : World} {A : Option Addr} {c : Nat} {s : List Int} (h : IntR W (.slice A s.length c) s) : InB W.heap.size W A s := by
  by_cases e : s = []
  · exact .inl e
  · obtain ⟨A', c', e1, h2⟩ := h
    simp only [Value.slice.injEq] at e1
    obtain ⟨rfl, _, rfl⟩ := e1
    rcases h2 with h | ⟨b, o, rfl, hlt, hc⟩
    · exact absurd h e
    · refine .inr ⟨b, o, rfl, hlt, hlt, fun k x hk => ?_⟩
      have := hc k x 0 _ hk rfl
      rw [Nat.mul_one, Nat.add_zero] at this
      exact this

set_option maxRecDepth 100000 in
set_option maxHeartbeats 2000000 in
theorem back1_in (l Bn n₀ : Nat) (A : Option Addr) (c : Nat) (s : List Int) (J Jx : List (Bk s) → World → Prop) (hs : s.length ≤ 1000)
    (hY : ∀ pre x W, J pre W → pre.length < s.length → YieldAt Fence.wide 8 Tryz.prog l (encB x) W fun e W' =>
      (e = .returned (.bool true) ∧ J (pre ++ [x]) W' ∧ KpB n₀ Bn W W') ∨ (e = .returned (.bool false) ∧ Jx (pre ++ [x]) W'))
    (W : World) (hBn : Boxed W Bn insT (.slice A s.length c)) (hr : InB n₀ W A s) (h0 : J [] W) :
    CallsIn Fence.wide 9 Tryz.prog 146 #[.func (.yield l) #[] #[], .pointer (some ⟨Bn, 0, none⟩)] W fun e W' => (∃ v, e = .returned v) ∧
      ((∃ ys : List (Bk s), bks ys = dn s.length s.length ∧ J ys W') ∨ (∃ pre, True ∧ Jx pre W')) := by
  refine callsIn_of_wp Tryz.func146 rfl trivial ?_ rfl
  simp only [Tryz.ntmps146, List.size_toArray, List.length_cons, List.length_nil, Nat.reduceAdd, Nat.reduceSub, Array.replicate_succ, Array.replicate_zero, List.push_toArray, List.append_toArray, List.nil_append, List.cons_append]
  have HBN := Lib.hid hBn
  have HR := Lib.hid hr
  have HY := Lib.hid hY
  have g0 := hBn.cell
  clear hY hBn hr
  obtain ⟨n, hn⟩ : ∃ n, n = s.length := ⟨_, rfl⟩
  have HN := Lib.hid hn
  rw [← hn] at HBN hs g0 ⊢
  clear hn
  gi_wp2
  gi_loopw [3] (fun i wr => ∃ (m : Nat) (pre : List (Bk s)), m ≤ n ∧ i = .int .i64 ((m : Int) - 1) ∧ Hid (bks pre = dn n (n - m)) ∧ J pre wr ∧ Boxed wr Bn insT (.slice A n c) ∧ Hid (InB n₀ wr A s)) (fun i _ => (intOf i + 1).toNat)
  case atStart => exact ⟨n, [], Nat.le_refl _, by go_num, Lib.hid (by rw [Nat.sub_self]; rfl), h0, HBN.out, HR⟩
  case round =>
    clear g0 h0
    obtain ⟨m, pre, hm, hi, HP, hJ, hB, HI⟩ := hrel
    cases m with
    | zero =>
      subst hi
      gi_wp2
      go_end0
      exact ⟨⟨_, rfl⟩, .inl ⟨pre, HP.out, hJ⟩⟩
    | succ q =>
      rw [show ((q + 1 : Nat) : Int) - 1 = (q : Int) by omega] at hi
      subst hi
      have g0 := hB.cell
      obtain ⟨x, hx⟩ : ∃ x, s[q]? = some x := ⟨_, List.getElem?_eq_getElem (by have := HN.out; omega)⟩
      have hne : ¬ s = [] := by intro e; rw [e] at hx; cases hx
      obtain ⟨b, o, e1, hb0, hb1, hc⟩ := HI.out.resolve_left hne
      subst e1
      have z0 := hc q x hx
      have i0 : (0 : Int) ≤ (q : Int) := by omega
      have i1 : (q : Int) < (n : Int) := by omega
      have hpl : pre.length < s.length := by
        have := congrArg List.length HP.out
        rw [bks_len, dn_len] at this
        have := HN.out
        omega
      obtain ⟨fn, tmps, assign, body, hy, hR⟩ := HY.out pre ⟨(q, x), hx⟩ wr hJ hpl
      dsimp only [encB] at hy
      have HB3 : Hid (∀ W3, KpB n₀ Bn wr W3 → Boxed W3 Bn insT (.slice (some ⟨b, o, none⟩) n c) ∧ InB n₀ W3 (some ⟨b, o, none⟩) s) := Lib.hid (fun W3 h => ⟨h.2.trans hB, HI.out.more h.1⟩)
      have HQ : Hid (bks (pre ++ [(⟨(q, x), hx⟩ : Bk s)]) = dn n (n - q)) := Lib.hid (by
        rw [bks_snoc, HP.out, show n - q = n - (q + 1) + 1 by omega, dn, show n - 1 - (n - (q + 1)) = q by omega])
      clear hc hne
      gi_wp2
      refine hR.mono ?_
      rintro e W3 (⟨rfl, hJ3, hk3⟩ | ⟨rfl, hx3⟩)
      · obtain ⟨hB4, hI4⟩ := HB3.out W3 hk3
        gi_wp2
        go_roundw
        case rel => exact ⟨q, pre ++ [⟨(q, x), hx⟩], by omega, by go_num, HQ, hJ3, hB4, Lib.hid hI4⟩
        case measure => simp [intOf]
      · gi_wp2
        refine bodyPost_ret (results_none rfl _ _ _) rfl ?_
        exact ⟨⟨_, rfl⟩, .inr ⟨_, trivial, hx3⟩⟩
/-- the contract of the iterator's value -/
theorem back_stops (Bn n₀ : Nat) (A : Option Addr) (c : Nat) (s : List Int) (hs : s.length ≤ 1000) (w : World) (hn : n₀ ≤ w.heap.size) (hBn : Boxed w Bn insT (.slice A s.length c)) (hr : InB n₀ w A s) :
    SeqStopsK Fence.wide 9 Tryz.prog 146 #[.pointer (some ⟨Bn, 0, none⟩)] (encB (s := s)) (KpB n₀ Bn) (fun ys => bks ys = dn s.length s.length) (fun _ => True) s.length w := fun l J Jx W hW hJ _ hY h0 =>
  back1_in l Bn n₀ A c s J Jx hs hY W (boxed_more hBn hW) (hr.more (hW.mono hn)) h0
set_option maxHeartbeats 1000000 in
theorem back_any (A : Option Addr) (n c : Nat) (w : World) : CallsIn Fence.wide 9 Tryz.prog 132 #[.slice A n c] w fun e w' => e = .returned (.func (.func 146) #[] #[.pointer (some ⟨w.heap.size, 0, none⟩)]) ∧ w' = w.alloc (.cells #[.slice A n c] insT) := by
  refine callsIn_of_wp Tryz.func132 rfl trivial ?_ rfl
  simp only [Tryz.ntmps132, List.size_toArray, List.length_cons, List.length_nil, Nat.reduceAdd, Nat.reduceSub, Array.replicate_succ, Array.replicate_zero, List.push_toArray, List.append_toArray, List.nil_append, List.cons_append]
  gi_wp2
  go_ret
  exact ⟨rfl, rfl⟩
end Go.Proofs.YtjmahmeionakaaaGreatDoor

namespace Go.Proofs.YtjmahmeionakaaaGreatDoor
open Go.RowKit Go.Shelf
attribute [local go_sem] maxIf minIf
set_option linter.unusedSimpArgs false
set_option linter.unusedVariables false
attribute [local go_sem] Oper.semAt_some
attribute [local simp] wide_fn

/-! ### what the loop does, as folds over what has come -/
def upd (f : Nat → Int) (k : Nat) (x : Int) : Nat → Int := fun j => if j = k then x else f j
theorem tab_upd (f : Nat → Int) (n k : Nat) (x : Int) : (tab f n).set k x = tab (upd f k x) n := by
  apply List.ext_getElem
  · simp [tab]
  · intro i h1 h2
    have h1' : i < n := by simpa [tab] using h1
    rw [List.getElem_set]
    simp only [tab, List.getElem_map, List.getElem_range, upd]
    by_cases e : k = i
    · subst e; simp
    · rw [if_neg e, if_neg (fun h => e h.symm)]
def ns1 (t : Int × (Nat → Int)) (x : Nat × Int) : Int × (Nat → Int) := (wrap64 (t.1 + x.2), upd t.2 x.1 (wrap64 (t.2 x.1 - wrap64 (t.1 + x.2))))
def nsL {s : List Int} (f : Nat → Int) (l : List (Bk s)) : Int × (Nat → Int) := (l.map (fun x => x.1)).foldl ns1 (0, f)
theorem nsL_snoc {s : List Int} (f : Nat → Int) (l : List (Bk s)) (x : Bk s) : nsL f (l ++ [x]) = ns1 (nsL f l) x.1 := by simp [nsL]
theorem nsL_dn {s : List Int} {b : Cb} (hP : LimP b) (hr : rgtB b s = true) : ∀ (k : Nat) (l : List (Bk s)), k ≤ s.length → bks l = dn s.length k → (nsL (limA b) l).1 = nsF s (s.length - k) ∧ ∀ j, (nsL (limA b) l).2 j = if s.length - k ≤ j ∧ j < s.length then leF b s j else limA b j
  | 0, l, hk, h => by
    have : l = [] := by
      have := congrArg List.length h
      rw [bks_len] at this
      exact List.eq_nil_of_length_eq_zero this
    subst this
    refine ⟨?_, fun j => ?_⟩
    · show (0 : Int) = _
      rw [nsF_end s _ (by omega)]
    · rw [if_neg (by omega)]; rfl
  | k + 1, l, hk, h => by
    obtain ⟨q, x, rfl⟩ : ∃ q x, l = q ++ [x] := by
      rcases List.eq_nil_or_concat l with e | ⟨q, x, e⟩
      · subst e
        have := congrArg List.length h
        rw [bks_len, dn_len] at this
        cases this
      · exact ⟨q, x, by rw [e, List.concat_eq_append]⟩
    rw [bks_snoc] at h
    obtain ⟨h1, h2⟩ := List.append_inj h (by rw [bks_len, dn_len]; have := congrArg List.length h; rw [List.length_append, bks_len, dn_len] at this; simpa using this)
    have hx : x.1.1 = s.length - 1 - k := by simpa using h2
    obtain ⟨i1, i2⟩ := nsL_dn hP hr k q (by omega) h1
    obtain ⟨hlen, hall⟩ := rgtB_yes hr
    have hget := x.2
    have hst := nsF_step s x.1.1 x.1.2 hget
    have hb1 := nsF_in s hall (s.length - k)
    have hb2 := nsF_in s hall x.1.1
    have hb3 := hP.len
    have hb4 := limA_in hP x.1.1
    have e1 : s.length - k = x.1.1 + 1 := by omega
    have e2 : s.length - (k + 1) = x.1.1 := by omega
    have w1 : wrap64 ((nsL (limA b) q).1 + x.1.2) = nsF s x.1.1 := by
      rw [i1, e1, hst]
      rw [hst] at hb2
      unfold wrap64; omega
    rw [nsL_snoc]
    unfold ns1
    dsimp only
    rw [w1, e2]
    refine ⟨rfl, fun j => ?_⟩
    unfold upd
    by_cases e : j = x.1.1
    · subst e
      rw [if_pos rfl, if_pos (by omega), i2, if_neg (by omega)]
      unfold leF wrap64
      omega
    · rw [if_neg e, i2]
      by_cases h3 : s.length - k ≤ j ∧ j < s.length
      · rw [if_pos h3, if_pos (by omega)]
      · rw [if_neg h3, if_neg (by omega)]
theorem nsL_all {s : List Int} {b : Cb} (hP : LimP b) (hr : rgtB b s = true) (l : List (Bk s)) (h : bks l = dn s.length s.length) : tab (nsL (limA b) l).2 s.length = tab (leF b s) s.length := by
  obtain ⟨_, h2⟩ := nsL_dn hP hr s.length l (Nat.le_refl _) h
  apply List.ext_getElem
  · simp [tab]
  · intro i h3 h4
    have h3' : i < s.length := by simpa [tab] using h3
    simp only [tab, List.getElem_map, List.getElem_range]
    rw [h2 i, if_pos (by omega)]
theorem Row.kept {W W' : World} {row : Option Nat} {b : Nat} {l : List Int} (h : Row W b l) (hg : W.grownBy W' row) (hr : ∀ r, row = some r → ∃ o : Obj, W.heap[r]? = some o ∧ o.isCells = false) : Row W' b l :=
  ⟨fun j hj => cell_kept (h.cell j hj) hg hr, fun j hj => (frozen_kept (h.cell j hj) hg hr).trans (h.froz j hj), Nat.lt_of_lt_of_le h.lt hg.size⟩
theorem row_own {β : Type} (g : Nat) (f : β → List Int) : Own (fun s W => Row W g (f s)) := fun s X Y row hs hg hr => hs.kept hg hr
set_option maxRecDepth 100000 in
set_option maxHeartbeats 4000000 in
theorem left_in (b : Cb) (A : Option Addr) (c : Nat) (s : List Int) (w : World) (hb : CbAt w b) (hP : LimP b) (hr : rgtB b s = true) (hL : IntR w (.slice A s.length c) s) :
    CallsIn Fence.wide 10 Tryz.prog 105 #[aggCb b, .slice A s.length c] w fun e W' => ∃ g c', e = .returned (.slice (some ⟨g, 0, none⟩) s.length c') ∧ w.heap.size ≤ g ∧ Row W' g (tab (leF b s) s.length) ∧ Below w.heap.size w W' := by
  obtain ⟨hlen, hall⟩ := rgtB_yes hr
  have hs30 := hP.len
  have hbA := bel_alloc w (.cells #[.string b.name, .int .i64 b.seats, .int .i64 b.over, .slice b.A b.l.length b.c] cbT)
  have q0 := (cells_new w #[.string b.name, .int .i64 b.seats, .int .i64 b.over, .slice b.A b.l.length b.c] cbT 0).trans (show _ = some (Value.string b.name) from rfl)
  have q1 := (cells_new w #[.string b.name, .int .i64 b.seats, .int .i64 b.over, .slice b.A b.l.length b.c] cbT 1).trans (show _ = some (Value.int .i64 b.seats) from rfl)
  have q2 := (cells_new w #[.string b.name, .int .i64 b.seats, .int .i64 b.over, .slice b.A b.l.length b.c] cbT 2).trans (show _ = some (Value.int .i64 b.over) from rfl)
  have q3 := (cells_new w #[.string b.name, .int .i64 b.seats, .int .i64 b.over, .slice b.A b.l.length b.c] cbT 3).trans (show _ = some (Value.slice b.A b.l.length b.c) from rfl)
  have HH := Lib.hid (show LimP b ∧ rgtB b s = true ∧ IntR w (.slice A s.length c) s ∧ s.length = b.l.length ∧ Below w.heap.size w (w.alloc (.cells #[.string b.name, .int .i64 b.seats, .int .i64 b.over, .slice b.A b.l.length b.c] cbT)) from ⟨hP, hr, hL, hlen, hbA⟩)
  obtain ⟨n, hn⟩ : ∃ n, n = s.length := ⟨_, rfl⟩
  have HN := Lib.hid hn
  have hn30 : n ≤ 30 := by omega
  have KL : Hid (∀ W, SW w W → Calls Tryz.prog 131 #[aggCb b] W fun e w' => ∃ g c, e = .returned (.slice (some ⟨g, 0, none⟩) n c) ∧ W.heap.size ≤ g ∧ Row w' g (tab (limA b) n) ∧ Below W.heap.size W w') := Lib.hid (fun W h => by rw [HN.out, hlen]; exact limits_own b W (hb.more h) hP)
  rw [← hn]
  clear hP hr hL hb hlen hall hn hs30
  refine callsIn_of_wp_marks Tryz.func105 rfl trivial ?_ rfl
  simp only [Tryz.ntmps105, List.size_toArray, List.length_cons, List.length_nil, Nat.reduceAdd, Nat.reduceSub, Array.replicate_succ, Array.replicate_zero, List.push_toArray, List.append_toArray, List.nil_append, List.cons_append]
  gi_wp2_with (first
    | (gi_at_call 131; refine (callsIn_wide.2 (KL.out _ hbA)).mono ?_; rintro e w1 ⟨g, c1, rfl, hg, hrow, hb1⟩)
    | (gi_at_call 132; refine (back_any _ _ _ _).mono ?_; rintro e w2 ⟨rfl, rfl⟩))
  have hgz := hrow.lt
  have hwg : w.heap.size ≤ g := by rw [World.size_alloc] at hg; omega
  have hw1 : Below w.heap.size w w1 := hbA.trans (hb1.mono hbA.size)
  have hwz := hw1.size
  clear hg hb1 q0 q1 q2 q3 hbA
  obtain ⟨W0, hW0⟩ : ∃ W0, W0 = ((w1.alloc (.cells #[.slice (some ⟨g, 0, none⟩) n c1] insT)).alloc (.cells #[.int .i64 0] inT)).alloc (.cells #[.slice A n c] insT) := ⟨_, rfl⟩
  have hs0 : W0.heap.size = w1.heap.size + 3 := by rw [hW0]; simp
  have b1 : Boxed W0 w1.heap.size insT (.slice (some ⟨g, 0, none⟩) n c1) := by
    rw [hW0]
    exact ((Boxed.new w1 insT (.slice (some ⟨g, 0, none⟩) n c1)).alloc _).alloc _
  have b2 : Boxed W0 (w1.heap.size + 1) inT (.int .i64 0) := by
    rw [hW0]
    have h := Boxed.new (w1.alloc (.cells #[.slice (some ⟨g, 0, none⟩) n c1] insT)) inT (.int .i64 0)
    rw [World.size_alloc] at h
    exact h.alloc _
  have b3 : Boxed W0 (w1.heap.size + 1 + 1) insT (.slice A n c) := by
    rw [hW0]
    have h := Boxed.new ((w1.alloc (.cells #[.slice (some ⟨g, 0, none⟩) n c1] insT)).alloc (.cells #[.int .i64 0] inT)) insT (.slice A n c)
    simp only [World.size_alloc] at h
    exact h
  have r0 : Row W0 g (tab (limA b) n) := by
    rw [hW0]
    exact ((hrow.alloc _).alloc _).alloc _
  have hB0 : Below w.heap.size w W0 := by
    rw [hW0]
    exact ((hw1.alloc (by omega) _).alloc (by simp; omega) _).alloc (by simp; omega) _
  rw [show ((w1.alloc (.cells #[.slice (some ⟨g, 0, none⟩) n c1] insT)).alloc (.cells #[.int .i64 0] inT)).alloc (.cells #[.slice A n c] insT) = W0 from hW0.symm]
  clear hW0 hrow
  have hIB : InB w.heap.size W0 A s := (inB_of HH.out.2.2.1).more hB0
  obtain ⟨Z, hZ⟩ : ∃ Z, Z = w1.heap.size := ⟨_, rfl⟩
  rw [← hZ] at hs0 b1 b2 b3 hgz hwz ⊢
  have hzW : w.heap.size ≤ W0.heap.size := by omega
  clear hZ hw1
  refine wpIn_rangeFunc_ownG rfl (by omega) (gf := 146) (lb := #[.pointer (some ⟨Z + 1 + 1, 0, none⟩)]) rfl trivial (enters_of Tryz.func146 (by kernel_rfl) rfl)
    (back_stops (Z + 1 + 1) w.heap.size A c s (by have := HN.out; omega) W0 hzW (by rw [← HN.out]; exact b3) hIB) kp_t (kp_b hzW (by omega)) (Below.refl _ _) (fun _ => rfl)
    (fun pre W => ((Boxed W (Z + 1) inT (.int .i64 (nsL (limA b) pre).1) ∧ Row W g (tab (nsL (limA b) pre).2 n)) ∧ Boxed W Z insT (.slice (some ⟨g, 0, none⟩) n c1)) ∧ Below w.heap.size w W)
    (fun _ _ _ => False)
    (OwnFrom.and (OwnFrom.and (OwnFrom.and (Own.from (boxed_own _ _ (fun pre : List (Bk s) => Value.int .i64 (nsL (limA b) pre).1)) _) (Own.from (row_own g (fun pre : List (Bk s) => tab (nsL (limA b) pre).2 n)) _)) (Own.from (boxed_own _ _ (fun _ => Value.slice (some ⟨g, 0, none⟩) n c1)) _)) (ownFrom_below (Nat.le_refl _) hzW))
    (fun _ _ _ _ _ hs _ _ => hs)
    ⟨⟨⟨b2, r0⟩, b1⟩, hB0⟩
    (fun x => { tmps := #[aggCb b, .slice A n c, .pointer (some ⟨w.heap.size, 0, none⟩), undef, .slice none 0 0, .pointer (some ⟨Z, 0, none⟩), .pointer (some ⟨Z + 1, 0, none⟩), .int .i64 (x.1.1 : Int), .int .i64 x.1.2, aggCb b, .slice (some ⟨g, 0, none⟩) n c1, .slice A n c, .func (.func 146) #[] #[.pointer (some ⟨Z + 1 + 1, 0, none⟩)], .int .i64 (x.1.1 : Int), .int .i64 x.1.2, undef, undef, undef, undef, undef, undef, undef, undef, undef, undef, undef], defers := [] }) ?assign ?body ?done ?stop
  case assign =>
    intro l x W K hK
    dsimp only [encB]
    rw [zip_two]
    gi_wp2
    exact hK
  case body =>
    rintro l pre ⟨⟨k, x⟩, hx⟩ W ⟨⟨⟨hbn, hrw⟩, hbl⟩, hB⟩ hlt
    dsimp only at hx ⊢
    clear hs0 b1 b2 b3 r0 hB0 hIB
    have hkn : k < n := by have := (List.getElem?_eq_some_iff.1 hx).1; have := HN.out; omega
    have HS := Lib.hid (nsL_snoc (limA b) pre ⟨(k, x), hx⟩)
    generalize nsL (limA b) pre = t at *
    obtain ⟨tn, tf⟩ := t
    dsimp only at hbn hrw
    have c2 := hbn.cell
    have f2 := hbn.frozen
    have k1 : (k : Int) < (n : Int) := by omega
    have hbn1 := hbn.set (.int .i64 (wrap64 (tn + x)))
    have hbl1 := hbl.other (B' := Z + 1) (by omega) (.int .i64 (wrap64 (tn + x)))
    have hrw1 := hrw.other (c := Z + 1) (by omega) 0 (.int .i64 (wrap64 (tn + x)))
    have HK1 : Hid (Row (W.setCell ⟨Z + 1, 0, none⟩ (.int .i64 (wrap64 (tn + x)))) g (tab tf n)) := Lib.hid hrw1
    have HB1 : Hid (Below w.heap.size W (W.setCell ⟨Z + 1, 0, none⟩ (.int .i64 (wrap64 (tn + x)))) ∧ (W.setCell ⟨Z + 1, 0, none⟩ (.int .i64 (wrap64 (tn + x)))).heap[Z + 1 + 1]? = W.heap[Z + 1 + 1]?) := Lib.hid ⟨(Below.refl w.heap.size W).setCell (p := ⟨Z + 1, 0, none⟩) (by show w.heap.size ≤ Z + 1; omega) _, Below.heap_setCell _ _ _ _ (by simp)⟩
    have hk1 : KeepsFrom W0.heap.size W (W.setCell ⟨Z + 1, 0, none⟩ (.int .i64 (wrap64 (tn + x)))) := (KeepsOthers.setCell _ _ _).from _
    have d0 := hbl1.cell
    have d1 := hbn1.cell
    have d2 : (W.setCell ⟨Z + 1, 0, none⟩ (.int .i64 (wrap64 (tn + x)))).cell? ⟨g, k, none⟩ = some (.int .i64 (tf k)) := by
      have h := hrw1.cell k (by rw [tab_len]; exact hkn)
      rw [h]; simp [tab]
    have d3 := hrw1.froz k (by rw [tab_len]; exact hkn)
    gi_wp2
    rw [show ns1 (tn, tf) (k, x) = (wrap64 (tn + x), upd tf k (wrap64 (tf k - wrap64 (tn + x)))) from rfl] at HS
    generalize wrap64 (tn + x) = m at *
    generalize W.setCell ⟨Z + 1, 0, none⟩ (.int .i64 m) = W1 at *
    have e0 : W1.drew.cell? ⟨Z, 0, none⟩ = some (.slice (some ⟨g, 0, none⟩) n c1) := d0
    have e1 : W1.drew.cell? ⟨Z + 1, 0, none⟩ = some (.int .i64 m) := d1
    have e2 : W1.drew.cell? ⟨g, k, none⟩ = some (.int .i64 (tf k)) := d2
    have e3 : W1.drew.frozen? ⟨g, k, none⟩ = false := d3
    have hm : Tryz.prog.follows .mixedOrders = true := by kernel_rfl
    have HF : Hid (KeepsFrom W0.heap.size W (W1.setCell ⟨g, k, none⟩ (.int .i64 (IntKind.i64.wrap (tf k - m)))).drew ∧ KpB w.heap.size (Z + 1 + 1) W (W1.setCell ⟨g, k, none⟩ (.int .i64 (IntKind.i64.wrap (tf k - m)))).drew ∧
        ((Boxed (W1.setCell ⟨g, k, none⟩ (.int .i64 (IntKind.i64.wrap (tf k - m)))).drew (Z + 1) inT (.int .i64 (nsL (limA b) (pre ++ [⟨(k, x), hx⟩])).1) ∧ Row (W1.setCell ⟨g, k, none⟩ (.int .i64 (IntKind.i64.wrap (tf k - m)))).drew g (tab (nsL (limA b) (pre ++ [⟨(k, x), hx⟩])).2 n)) ∧
        Boxed (W1.setCell ⟨g, k, none⟩ (.int .i64 (IntKind.i64.wrap (tf k - m)))).drew Z insT (.slice (some ⟨g, 0, none⟩) n c1)) ∧ Below w.heap.size w (W1.setCell ⟨g, k, none⟩ (.int .i64 (IntKind.i64.wrap (tf k - m)))).drew) := Lib.hid (by
      have hS : ∀ (B : Nat) (t : TypeId) (v : Value), B ≠ g → Boxed W1 B t v → Boxed (W1.setCell ⟨g, k, none⟩ (.int .i64 (IntKind.i64.wrap (tf k - m)))).drew B t v := fun B t v hne h => (Below.heap_setCell _ _ _ B hne).trans h
      rw [HS.out]
      refine ⟨hk1.trans (((KeepsOthers.setCell _ _ _).trans (KeepsOthers.drew _)).from _), ⟨HB1.out.1.trans (((Below.refl w.heap.size W1).setCell (p := ⟨g, k, none⟩) (by show w.heap.size ≤ g; exact hwg) _).drew), ?_⟩, ⟨⟨hS _ _ _ (by omega) hbn1, ?_⟩, hS _ _ _ (by omega) hbl1⟩, (hB.trans HB1.out.1).trans (((Below.refl w.heap.size W1).setCell (p := ⟨g, k, none⟩) (by show w.heap.size ≤ g; exact hwg) _).drew)⟩
      · exact (Below.heap_setCell _ _ _ _ (by simp; omega)).trans HB1.out.2
      · have h := (hrw1.set k (by rw [tab_len]; exact hkn) (IntKind.i64.wrap (tf k - m))).drew
        rw [tab_upd] at h
        show Row _ g (tab (upd tf k (wrap64 (tf k - m))) n)
        rw [← show IntKind.i64.wrap (tf k - m) = wrap64 (tf k - m) by first | rfl | (rw [IntKind.wrap_i64]; unfold wrap64; omega)]
        exact h)
    clear d0 d1 d2 d3 c2 f2 hbn hrw hbl hbn1 hbl1 hrw1 HK1 hk1 HB1 hB
    gi_region_with_o (fail)
    all_goals
      gi_wp2
      exact HF.out
  case done =>
    rintro D ys W hD hys ⟨⟨⟨hbn, hrw⟩, hbl⟩, hB⟩ hK
    obtain ⟨hP, hr, hL, hlen, _⟩ := HH.out
    have HA := nsL_all hP hr ys hys
    rw [← HN.out] at HA
    rw [HA] at hrw
    have hc := hbl.cell
    clear hbn
    gi_wp2
    refine ⟨by simp, .inl ⟨_, _, rfl, run_takeDeferred hK, ?_⟩⟩
    exact ⟨_, results_tmp rfl _ _ _, g, c1, rfl, hwg, hrw.kept (grownBy_putObj' _ D (.deferred none)) (fun r e => by cases e; exact ⟨_, hK, rfl⟩), hB.trans (belowK_b (w := w) (Nat.le_refl _) W D _ _ (by omega) hK rfl rfl)⟩
  case stop =>
    rintro D c pre W _ _ h _
    exact h.elim
end Go.Proofs.YtjmahmeionakaaaGreatDoor

namespace Go.Proofs.YtjmahmeionakaaaGreatDoor
open Go.RowKit Go.Shelf
attribute [local go_sem] maxIf minIf
set_option linter.unusedSimpArgs false
set_option linter.unusedVariables false

theorem left_any (b : Cb) (A : Option Addr) (c : Nat) (s : List Int) (w : World) (hb : CbAt w b) (hP : LimP b) (hr : rgtB b s = true) (hL : IntR w (.slice A s.length c) s) :
    Calls Tryz.prog 105 #[aggCb b, .slice A s.length c] w fun e W' => ∃ g c', e = .returned (.slice (some ⟨g, 0, none⟩) s.length c') ∧ w.heap.size ≤ g ∧ Row W' g (tab (leF b s) s.length) ∧ Below w.heap.size w W' := callsIn_wide.1 (left_in b A c s w hb hP hr hL)
/-- the cells of a cabin in a box -/
theorem cb_cells (w : World) (b : Cb) : ∀ j u, (encCb b)[j]? = some u → (w.alloc (.cells #[.string b.name, .int .i64 b.seats, .int .i64 b.over, .slice b.A b.l.length b.c] cbT)).cell? ⟨w.heap.size, j, none⟩ = some u := fun j u h => by
  rw [cells_new, List.getElem?_toArray]
  exact h
def seL (b : Cb) (s : List Int) (k : Nat) : Nat → Int := fun j => if j < k then opF b s j else leF b s j
theorem seL_zero (b : Cb) (s : List Int) (n : Nat) : tab (seL b s 0) n = tab (leF b s) n := rfl
theorem seL_full (b : Cb) (s : List Int) (n : Nat) : tab (seL b s n) n = tab (opF b s) n := by
  apply List.ext_getElem
  · simp [tab]
  · intro i h1 h2
    have h1' : i < n := by simpa [tab] using h1
    simp [tab, seL, h1']
theorem seL_put (b : Cb) (s : List Int) (n k : Nat) (h : k < n) : (tab (seL b s k) n).set k (opF b s k) = tab (seL b s (k + 1)) n := by
  rw [tab_upd]
  apply List.ext_getElem
  · simp [tab]
  · intro i h1 h2
    simp only [tab, List.getElem_map, List.getElem_range, upd, seL]
    by_cases e : i = k
    · subst e; rw [if_pos rfl, if_pos (by omega)]
    · rw [if_neg e]
      by_cases h3 : i < k
      · rw [if_pos h3, if_pos (by omega)]
      · rw [if_neg h3, if_neg (by omega)]
set_option maxRecDepth 100000 in
set_option maxHeartbeats 4000000 in
theorem open_any (b : Cb) (A : Option Addr) (c : Nat) (s : List Int) (w : World) (hb : CbAt w b) (hP : LimP b) (hl : s.length ≤ 1000) (hL : IntR w (.slice A s.length c) s) :
    Calls Tryz.prog 59 #[aggCb b, .slice A s.length c] w fun e w' => ∃ v', e = .returned v' ∧ IntR w' v' (opL b s) ∧ Below w.heap.size w w' := by
  have hbA := bel_alloc w (.cells #[.string b.name, .int .i64 b.seats, .int .i64 b.over, .slice b.A b.l.length b.c] cbT)
  have q0 := cb_cells w b 0 _ rfl
  have q1 := cb_cells w b 1 _ rfl
  have q2 := cb_cells w b 2 _ rfl
  have q3 := cb_cells w b 3 _ rfl
  have KR : Hid (∀ W, SW w W → Calls Tryz.prog 104 #[aggCb b, .slice A s.length c] W fun e w' => e = .returned (.bool (rgtB b s)) ∧ Below W.heap.size W w') := Lib.hid (fun W h => isRight_any b A c s W hl (hL.more h))
  have KL : Hid (rgtB b s = true → ∀ W, SW w W → Calls Tryz.prog 105 #[aggCb b, .slice A s.length c] W fun e W' => ∃ g c', e = .returned (.slice (some ⟨g, 0, none⟩) s.length c') ∧ W.heap.size ≤ g ∧ Row W' g (tab (leF b s) s.length) ∧ Below W.heap.size W W') := Lib.hid (fun hr W h => left_any b A c s W (hb.more h) hP hr (hL.more h))
  have HP := Lib.hid hP
  have HA := Lib.hid hbA
  clear hb hP hL
  cases hr : rgtB b s with
  | false =>
    rw [hr] at KR
    have HO : Hid (opL b s = []) := Lib.hid (by unfold opL; rw [hr]; rfl)
    rw [HO.out]
    clear hr
    go_enter Tryz.func59, Tryz.ntmps59
    go_wp2_with (go_at_call 104; refine (KR.out _ HA.out).mono ?_; rintro e w6 ⟨rfl, hb6⟩)
    go_ret
    exact ⟨_, rfl, ⟨none, 0, rfl, .inl rfl⟩, HA.out.trans (hb6.mono HA.out.size)⟩
  | true =>
    have KL := Lib.hid (KL.out hr)
    rw [hr] at KR
    have HO : Hid (opL b s = tab (opF b s) s.length) := Lib.hid (by unfold opL; rw [hr]; rfl)
    have HF : Hid (∀ i, -400000 ≤ leF b s i ∧ leF b s i ≤ 400000) := Lib.hid (leF_in HP.out hr)
    rw [HO.out]
    obtain ⟨n, hn⟩ : ∃ n, n = s.length := ⟨_, rfl⟩
    rw [← hn] at KL KR hl ⊢
    clear hr hn HO HP
    go_enter Tryz.func59, Tryz.ntmps59
    go_upto_region 4 with (first
      | (go_at_call 104; refine (KR.out _ HA.out).mono ?_; rintro e w6 ⟨rfl, hb6⟩; have hA6 := Below.trans HA.out (Below.mono hb6 HA.out.size); have q0 := bel_cell hb6 q0; have q1 := bel_cell hb6 q1; have q2 := bel_cell hb6 q2; have q3 := bel_cell hb6 q3)
      | (go_at_call 105; refine (KL.out _ hA6).mono ?_; rintro e w7 ⟨g, c1, rfl, hg, hrow, hb7⟩))
    have HB7 := Lib.hid (hA6.trans (hb7.mono hA6.size))
    have HG : Hid (w.heap.size ≤ g) := Lib.hid (Nat.le_trans hA6.size hg)
    have HR := Lib.hid hrow
    clear hA6 hb6 hb7 hg hrow q0 q1 q2 q3
    go_wp2
    go_loopw [6, 18] (fun s6 vi wr => ∃ k : Nat, k ≤ n ∧ vi = .int .i64 k ∧ s6 = .int .i64 (lsM (leF b s) k) ∧ Hid (Row wr g (tab (seL b s k) n) ∧ Below w.heap.size w wr)) (fun _ vi _ => n - (intOf vi).toNat)
    case atStart => exact ⟨0, Nat.zero_le _, rfl, rfl, Lib.hid ⟨by rw [seL_zero]; exact HR.out, HB7.out⟩⟩
    case round =>
      obtain ⟨k, hk, rfl, rfl, HK⟩ := hrel
      by_cases hlt : k < n
      · have i2 : (k : Int) < (n : Int) := by omega
        have d0 : wr.cell? ⟨g, k, none⟩ = some (.int .i64 (leF b s k)) := by
          rw [HK.out.1.cell k (by rw [tab_len]; exact hlt)]
          simp [tab, seL]
        have d1 := HK.out.1.froz k (by rw [tab_len]; exact hlt)
        have HM : Hid (lsM (leF b s) (k + 1) = if leF b s k < lsM (leF b s) k then leF b s k else lsM (leF b s) k) := Lib.hid (by simp only [lsM]; split <;> omega)
        have HO : Hid (opF b s k = if (if leF b s k < lsM (leF b s) k then leF b s k else lsM (leF b s) k) < 0 then 0 else if leF b s k < lsM (leF b s) k then leF b s k else lsM (leF b s) k) := Lib.hid (by unfold opF; rw [HM.out]; generalize (if leF b s k < lsM (leF b s) k then leF b s k else lsM (leF b s) k) = z; split <;> omega)
        have HN : Hid (Row (wr.setCell ⟨g, k, none⟩ (.int .i64 (opF b s k))) g (tab (seL b s (k + 1)) n) ∧ Below w.heap.size w (wr.setCell ⟨g, k, none⟩ (.int .i64 (opF b s k)))) := Lib.hid (by
          have h := HK.out.1.set k (by rw [tab_len]; exact hlt) (opF b s k)
          rw [seL_put b s n k hlt] at h
          exact ⟨h, HK.out.2.setCell (p := ⟨g, k, none⟩) HG.out _⟩)
        rw [HO.out] at HN
        generalize leF b s k = fk at *
        generalize lsM (leF b s) k = mk at *
        go_wp2
        go_roundw
        case rel => exact ⟨k + 1, by omega, by go_num, by rw [HM.out], HN⟩
        case measure => simp [intOf]; omega
      · have HE : Hid (k = n) := Lib.hid (by omega)
        have HQ : Hid (IntR wr (.slice (some ⟨g, 0, none⟩) n c1) (tab (opF b s) n) ∧ Below w.heap.size w wr) := Lib.hid (by
          have h := HK.out.1
          rw [HE.out, seL_full] at h
          have h2 := h.intR (c := c1)
          rw [tab_len] at h2
          exact ⟨h2, HK.out.2⟩)
        go_wp2
        go_ret
        exact ⟨_, rfl, HQ.out⟩
set_option maxRecDepth 100000 in
set_option maxHeartbeats 4000000 in
theorem excess_any (b : Cb) (A : Option Addr) (c : Nat) (s : List Int) (w : World) (hb : CbAt w b) (hP : LimP b) (hl : s.length ≤ 1000) (hL : IntR w (.slice A s.length c) s) :
    Calls Tryz.prog 57 #[aggCb b, .slice A s.length c] w fun e w' => e = .returned (.int .i64 (exP b s)) ∧ Below w.heap.size w w' := by
  have hbA := bel_alloc w (.cells #[.string b.name, .int .i64 b.seats, .int .i64 b.over, .slice b.A b.l.length b.c] cbT)
  have q0 := cb_cells w b 0 _ rfl
  have q1 := cb_cells w b 1 _ rfl
  have q2 := cb_cells w b 2 _ rfl
  have q3 := cb_cells w b 3 _ rfl
  have KR : Hid (∀ W, SW w W → Calls Tryz.prog 104 #[aggCb b, .slice A s.length c] W fun e w' => e = .returned (.bool (rgtB b s)) ∧ Below W.heap.size W w') := Lib.hid (fun W h => isRight_any b A c s W hl (hL.more h))
  have KL : Hid (rgtB b s = true → ∀ W, SW w W → Calls Tryz.prog 105 #[aggCb b, .slice A s.length c] W fun e W' => ∃ g c', e = .returned (.slice (some ⟨g, 0, none⟩) s.length c') ∧ W.heap.size ≤ g ∧ Row W' g (tab (leF b s) s.length) ∧ Below W.heap.size W W') := Lib.hid (fun hr W h => left_any b A c s W (hb.more h) hP hr (hL.more h))
  have HP := Lib.hid hP
  have HA := Lib.hid hbA
  clear hb hP hL
  cases hr : rgtB b s with
  | false =>
    rw [hr] at KR
    have HO : Hid (exP b s = 0) := Lib.hid (by unfold exP; rw [hr]; rfl)
    rw [HO.out]
    clear hr
    go_enter Tryz.func57, Tryz.ntmps57
    go_wp2_with (go_at_call 104; refine (KR.out _ HA.out).mono ?_; rintro e w6 ⟨rfl, hb6⟩)
    go_ret
    exact ⟨rfl, HA.out.trans (hb6.mono HA.out.size)⟩
  | true =>
    have KL := Lib.hid (KL.out hr)
    rw [hr] at KR
    have HO : Hid (exP b s = exF (leF b s) s.length) := Lib.hid (by unfold exP; rw [hr]; rfl)
    have HF : Hid (∀ i, -400000 ≤ leF b s i ∧ leF b s i ≤ 400000) := Lib.hid (leF_in HP.out hr)
    rw [HO.out]
    obtain ⟨n, hn⟩ : ∃ n, n = s.length := ⟨_, rfl⟩
    rw [← hn] at KL KR hl ⊢
    clear hr hn HO HP
    go_enter Tryz.func57, Tryz.ntmps57
    go_upto_region 4 with (go_at_call 104; refine (KR.out _ HA.out).mono ?_; rintro e w6 ⟨rfl, hb6⟩; have hA6 := Below.trans HA.out (Below.mono hb6 HA.out.size); have q0 := bel_cell hb6 q0; have q1 := bel_cell hb6 q1; have q2 := bel_cell hb6 q2; have q3 := bel_cell hb6 q3)
    go_wp2_with (go_at_call 105; refine (KL.out _ hA6).mono ?_; rintro e w7 ⟨g, c1, rfl, hg, hrow, hb7⟩)
    have HB7 := Lib.hid (hA6.trans (hb7.mono hA6.size))
    have HR := Lib.hid hrow
    clear hA6 hb6 hb7 hg hrow q0 q1 q2 q3
    go_loop [5, 16] (fun s5 vi => ∃ k : Nat, k ≤ n ∧ vi = .int .i64 k ∧ s5 = .int .i64 (exF (leF b s) k)) (fun _ vi => n - (intOf vi).toNat)
    case atStart => exact ⟨0, Nat.zero_le _, rfl, rfl⟩
    case round =>
      obtain ⟨k, hk, rfl, rfl⟩ := hrel
      by_cases hlt : k < n
      · have i2 : (k : Int) < (n : Int) := by omega
        have d0 : w7.cell? ⟨g, k, none⟩ = some (.int .i64 (leF b s k)) := by
          rw [HR.out.cell k (by rw [tab_len]; exact hlt)]
          simp [tab]
        obtain ⟨f1, f2⟩ := HF.out k
        have HM : Hid (exF (leF b s) (k + 1) = if exF (leF b s) k < -leF b s k then -leF b s k else exF (leF b s) k) := Lib.hid (by simp only [exF]; split <;> omega)
        generalize leF b s k = fk at *
        generalize exF (leF b s) k = mk at *
        have hw : wrap64 (-fk) = -fk := by unfold wrap64; omega
        go_wp2
        go_round
        case rel => exact ⟨k + 1, by omega, by go_num, by rw [HM.out]⟩
        case measure => simp [intOf]; omega
      · have HE : Hid (k = n) := Lib.hid (by omega)
        go_wp2
        go_ret
        exact ⟨by rw [HE.out]; rfl, HB7.out⟩
end Go.Proofs.YtjmahmeionakaaaGreatDoor

namespace Go.Proofs.YtjmahmeionakaaaGreatDoor
open Go.RowKit Go.Shelf
attribute [local go_sem] maxIf minIf
set_option linter.unusedSimpArgs false
set_option linter.unusedVariables false

theorem int_slice {W : World} {v : Value} {f : Nat → Int} {n : Nat} (h : IntR W v (tab f n)) : ∃ A c, v = .slice A n c ∧ ∀ k, k < n → ∃ bb o, A = some ⟨bb, o, none⟩ ∧ W.cell? ⟨bb, o + k, none⟩ = some (.int .i64 (f k)) := by
  obtain ⟨A, c, e, _⟩ := id h
  rw [tab_len] at e
  subst e
  exact ⟨A, c, rfl, fun k hk => int_at h (tab_get f n k hk)⟩
end Go.Proofs.YtjmahmeionakaaaGreatDoor

namespace Go.Proofs.YtjmahmeionakaaaGreatDoor
open Go.RowKit Go.Shelf
attribute [local go_sem] maxIf minIf
set_option linter.unusedSimpArgs false
set_option linter.unusedVariables false

end Go.Proofs.YtjmahmeionakaaaGreatDoor

namespace Go.Proofs.YtjmahmeionakaaaGreatDoor
open Go.RowKit Go.Shelf
attribute [local go_sem] maxIf minIf
set_option linter.unusedSimpArgs false
set_option linter.unusedVariables false

theorem ROwn.row {B : Nat} {W : World} {v : Value} {s : List Int} (h : ROwn 3 1 encI B W v s) (hne : s ≠ []) : ∃ g cap, v = .slice (some ⟨g, 0, none⟩) s.length cap ∧ B ≤ g ∧ Row W g s := by
  have hr := h.rowL rowI.len
  rcases h.own.2 with ⟨rfl, h1⟩ | ⟨g, cap, cur, rfl, hB, hgb, hnc, _⟩
  · exact absurd (List.eq_nil_of_length_eq_zero h1) hne
  · refine ⟨g, cap, rfl, hB, fun j hj => ?_, fun j hj => ?_, (Array.getElem?_eq_some_iff.1 hgb).1⟩
    · obtain ⟨bb, o, e, hc⟩ := int_at hr (List.getElem?_eq_getElem hj)
      cases e
      rw [Nat.zero_add] at hc
      exact hc
    · unfold World.frozen?
      simp only [hgb]
      simp
theorem wiL_at {s : List Int} {k : Nat} {x n : Int} (h : s[k]? = some x) : wiL s k n = s.set k (x + n) := by unfold wiL; rw [h]; rfl
end Go.Proofs.YtjmahmeionakaaaGreatDoor

namespace Go.Proofs.YtjmahmeionakaaaGreatDoor
open Go.RowKit Go.Shelf
attribute [local go_sem] maxIf minIf
set_option linter.unusedSimpArgs false
set_option linter.unusedVariables false

end Go.Proofs.YtjmahmeionakaaaGreatDoor

namespace Go.Proofs.YtjmahmeionakaaaGreatDoor
open Go.RowKit Go.Shelf
attribute [local go_sem] maxIf minIf
set_option linter.unusedSimpArgs false
set_option linter.unusedVariables false

theorem sumI_set : ∀ (l : List Int) (i : Nat) (a x : Int), l[i]? = some x → sumI (l.set i a) = sumI l + (a - x)
  | [], i, a, x, h => by simp at h
  | y :: r, 0, a, x, h => by
    simp at h
    subst h
    simp only [List.set_cons_zero, sumI]; omega
  | y :: r, i + 1, a, x, h => by
    have := sumI_set r i a x (by simpa using h)
    simp only [List.set_cons_succ, sumI, this]; omega
theorem nsF_wi {s : List Int} {k : Nat} {x : Int} (n : Int) (hx : s[k]? = some x) (j : Nat) : nsF (wiL s k n) j = nsF s j + if j ≤ k then n else 0 := by
  rw [wiL_at hx]
  unfold nsF
  rw [List.drop_set]
  by_cases h : k < j
  · rw [if_pos h, if_neg (by omega), Int.add_zero]
  · rw [if_neg h, if_pos (by omega), sumI_set _ (k - j) (x + n) x (by rw [List.getElem?_drop, show j + (k - j) = k by omega]; exact hx)]
    omega
theorem leF_wi {b : Cb} {s : List Int} {k : Nat} {x : Int} (n : Int) (hx : s[k]? = some x) (j : Nat) : leF b (wiL s k n) j = leF b s j - if j ≤ k then n else 0 := by
  unfold leF
  rw [nsF_wi n hx]
  omega
theorem opF_pos {b : Cb} {s : List Int} {k : Nat} {n : Int} (h1 : 1 ≤ n) (hn : n ≤ opF b s k) (j : Nat) (hj : j ≤ k) : n ≤ leF b s j := by
  have := lsM_le (leF b s) (k + 1) j (by omega)
  unfold opF at hn
  omega
theorem rgt_wi {b : Cb} {s : List Int} {k : Nat} {x n : Int} (hr : rgtB b s = true) (hx : s[k]? = some x) (h0 : 0 ≤ x + n) (h1 : x + n ≤ 9999) : rgtB b (wiL s k n) = true := by
  obtain ⟨hl, ha⟩ := rgtB_yes hr
  unfold rgtB
  rw [wiL_len, Bool.and_eq_true, decide_eq_true_eq, List.all_eq_true]
  refine ⟨hl, fun y hy => ?_⟩
  rw [wiL_at hx] at hy
  have : 0 ≤ y ∧ y ≤ 9999 := by
    rcases List.mem_or_eq_of_mem_set hy with h | h
    · exact ha y h
    · rw [h]; exact ⟨h0, h1⟩
  unfold nOk
  simp only [Bool.and_eq_true, decide_eq_true_eq]
  exact this
theorem sold_le {b : Cb} {s : List Int} {k : Nat} {x : Int} (hr : rgtB b s = true) (hx : s[k]? = some x) : 0 ≤ x ∧ x ≤ 9999 ∧ x ≤ nsF s k := by
  obtain ⟨hl, ha⟩ := rgtB_yes hr
  have h1 := ha x (List.mem_of_getElem? hx)
  have h2 := nsF_step s k x hx
  have h3 := nsF_in s ha (k + 1)
  omega
/-- what is sold is right -/
theorem rgt_sell {b : Cb} {s : List Int} {k : Nat} {x n : Int} (hP : LimP b) (hr : rgtB b s = true) (hx : s[k]? = some x) (h1 : 1 ≤ n) (hn : n ≤ opF b s k) : rgtB b (wiL s k n) = true := by
  have h2 := opF_pos h1 hn k (Nat.le_refl _)
  have h3 := sold_le hr hx
  have h4 := limA_in hP k
  unfold leF at h2
  exact rgt_wi hr hx (by omega) (by omega)
theorem fit_sell {b : Cb} {s : List Int} {k : Nat} {x n : Int} (hP : LimP b) (hf : fitB b s = true) (hx : s[k]? = some x) (h1 : 1 ≤ n) (hn : n ≤ opF b s k) : fitB b (wiL s k n) = true := by
  obtain ⟨hr, hp⟩ := (fitB_iff b s).1 hf
  refine (fitB_iff b _).2 ⟨rgt_sell hP hr hx h1 hn, fun j hj => ?_⟩
  rw [wiL_len] at hj
  rw [leF_wi n hx]
  by_cases h : j ≤ k
  · rw [if_pos h]; have := opF_pos h1 hn j h; omega
  · rw [if_neg h]; have := hp j hj; omega
theorem fit_cancel {b : Cb} {s : List Int} {k : Nat} {x n : Int} (hf : fitB b s = true) (hx : s[k]? = some x) (h1 : 1 ≤ n) (hn : n ≤ x) : fitB b (wiL s k (-n)) = true := by
  obtain ⟨hr, hp⟩ := (fitB_iff b s).1 hf
  have h3 := sold_le hr hx
  refine (fitB_iff b _).2 ⟨rgt_wi hr hx (by omega) (by omega), fun j hj => ?_⟩
  rw [wiL_len] at hj
  rw [leF_wi (-n) hx]
  have := hp j hj
  by_cases h : j ≤ k
  · rw [if_pos h]; omega
  · rw [if_neg h]; omega
theorem lsM_shift {f g : Nat → Int} {n : Int} : ∀ m : Nat, (∀ j, j ≤ m → g j = f j - n) → (∀ j, f j ≤ 9223372036854775807) → (∀ j, g j ≤ 9223372036854775807) → lsM g (m + 1) = lsM f (m + 1) - n
  | 0, h, hf, hg => by
    have h0 := h 0 (Nat.le_refl _)
    have h1 := hf 0
    have h2 := hg 0
    simp only [lsM]
    omega
  | m + 1, h, hf, hg => by
    have ih := lsM_shift m (fun j hj => h j (by omega)) hf hg
    have h0 := h (m + 1) (Nat.le_refl _)
    have e1 : lsM g (m + 1 + 1) = min (lsM g (m + 1)) (g (m + 1)) := rfl
    have e2 : lsM f (m + 1 + 1) = min (lsM f (m + 1)) (f (m + 1)) := rfl
    rw [e1, e2, ih, h0]
    omega
/-- nothing is open in a class where all was sold that was open -/
theorem open_sold {b : Cb} {s : List Int} {k : Nat} {x : Int} (hP : LimP b) (hr : rgtB b s = true) (hx : s[k]? = some x) (h1 : 1 ≤ opF b s k) : opF b (wiL s k (opF b s k)) k = 0 := by
  have hr2 := rgt_sell hP hr hx h1 (Int.le_refl _)
  have he : opF b s k = lsM (leF b s) (k + 1) := by unfold opF at h1 ⊢; omega
  have hs := lsM_shift (f := leF b s) (g := leF b (wiL s k (opF b s k))) (n := opF b s k) k (fun j hj => by rw [leF_wi _ hx, if_pos hj]) (fun j => by have := leF_in hP hr j; omega) (fun j => by have := leF_in hP hr2 j; omega)
  show max (lsM (leF b (wiL s k (opF b s k))) (k + 1)) 0 = 0
  rw [hs, ← he]
  omega
theorem opF_in {b : Cb} {s : List Int} (hP : LimP b) (hr : rgtB b s = true) (k : Nat) : 0 ≤ opF b s k ∧ opF b s k ≤ 400000 := by
  have h5 := lsM_le (leF b s) (k + 1) k (by omega)
  have h6 := leF_in hP hr k
  unfold opF
  omega
theorem nsF_zeros (n i : Nat) : nsF (List.replicate n 0) i = 0 := by
  unfold nsF
  rw [List.drop_replicate]
  induction n - i with
  | zero => rfl
  | succ k ih => rw [List.replicate_succ, sumI, ih]; rfl
end Go.Proofs.YtjmahmeionakaaaGreatDoor
