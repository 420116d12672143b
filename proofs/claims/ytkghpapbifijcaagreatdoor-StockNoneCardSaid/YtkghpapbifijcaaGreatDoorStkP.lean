/- The inventory of seats as plain data: legs, what is sold on them, and what every call answers and changes. -/
import Derived.Test.YtkghpapbifijcaaGreatDoorKitM
namespace Go.Proofs.YtkghpapbifijcaaGreatDoor
open Go.RowKit Go.Shelf
set_option linter.unusedSimpArgs false
set_option linter.unusedVariables false

/-- the identifier of a leg -/
structure Lid where
  car : ByteArray
  num : Int
  day : Int
  frm : ByteArray
def eqD (a b : Lid) : Bool := eqS a.car b.car && decide (a.num = b.num) && decide (a.day = b.day) && eqS a.frm b.frm
theorem eqD_iff (a b : Lid) : eqD a b = true ↔ a = b := by
  obtain ⟨a1, a2, a3, a4⟩ := a
  obtain ⟨b1, b2, b3, b4⟩ := b
  unfold eqD
  simp only [Bool.and_eq_true, eqS_iff, decide_eq_true_eq, Lid.mk.injEq]
  constructor
  · rintro ⟨⟨⟨h1, h2⟩, h3⟩, h4⟩
    exact ⟨h1, h2, h3, h4⟩
  · rintro ⟨h1, h2, h3, h4⟩
    exact ⟨⟨⟨h1, h2⟩, h3⟩, h4⟩
instance : DecidableEq Lid := fun a b => if h : eqD a b = true then isTrue ((eqD_iff a b).1 h) else isFalse fun e => h ((eqD_iff a b).2 e)
theorem eqD_no (a b : Lid) : eqD a b = false ↔ a ≠ b := by
  rw [← Bool.not_eq_true]
  exact not_congr (eqD_iff a b)
/-- the state of a leg: its configuration, what is sold by cabin and rank, whether it is closed -/
structure Lg where
  f : Cf
  so : List (List Int)
  cl : Bool
abbrev Stk : Type := Lid → Option Lg
/-- nothing is sold -/
def unsP (f : Cf) : List (List Int) := f.l.map fun b => List.replicate b.l.length 0
def updS (g : Stk) (i : Lid) (q : Lg) : Stk := fun j => if j = i then some q else g j
/-- n seats more in a cabin's class -/
def addS (so : List (List Int)) (i k : Nat) (n : Int) : List (List Int) := match so[i]? with
  | some s => so.set i (wiL s k n)
  | none => so
theorem addS_len (so : List (List Int)) (i k : Nat) (n : Int) : (addS so i k n).length = so.length := by
  unfold addS
  split <;> simp
def Lg.has (q : Lg) (c : ByteArray) : Bool := plB q.f.l c
def Lg.ci (q : Lg) (c : ByteArray) : Nat := (plI q.f.l c).toNat
def Lg.ck (q : Lg) (c : ByteArray) : Nat := (plK q.f.l c).toNat
def Lg.row (q : Lg) (i : Nat) : List Int := (q.so[i]?).getD []
def Lg.sold (q : Lg) (c : ByteArray) : Int := ((q.row (q.ci c))[q.ck c]?).getD 0
def Lg.add (q : Lg) (c : ByteArray) (n : Int) : Lg := { q with so := addS q.so (q.ci c) (q.ck c) n }
def cbZ : Cb := ⟨noB, 0, 0, none, 0, []⟩
def Lg.cab (q : Lg) (i : Nat) : Cb := (q.f.l[i]?).getD cbZ
def Lg.left (q : Lg) (c : ByteArray) : Int :=
  if q.cl = true ∨ q.has c = false then 0 else if rgtB (q.cab (q.ci c)) (q.row (q.ci c)) = true then opF (q.cab (q.ci c)) (q.row (q.ci c)) (q.ck c) else 0
def Lg.free (q : Lg) (c : ByteArray) : Int :=
  if q.has c = false then 0 else max ((q.cab (q.ci c)).seats + (q.cab (q.ci c)).over - sumI (q.row (q.ci c))) 0
/-- the seats sold, class by class -/
def cntC (l : List Cl) (s : List Int) : List (ByteArray × Int) := (l.zip s).map fun p => (p.1.code, p.2)
def cntB (l : List Cb) (so : List (List Int)) : List (ByteArray × Int) := (l.zip so).flatMap fun p => cntC p.1.l p.2
def Lg.counts (q : Lg) : List (ByteArray × Int) := cntB q.f.l q.so
/-- the greatest excess of the first k cabins -/
def exsP (l : List Cb) (so : List (List Int)) : Nat → Int
  | 0 => 0
  | k + 1 => match l[k]?, so[k]? with
    | some b, some s => max (exsP l so k) (exP b s)
    | _, _ => exsP l so k
def Lg.excess (q : Lg) : Int := exsP q.f.l q.so q.f.l.length
/-- what is sold moves to another configuration -/
def mv1 (a b : Cf) (so : List (List Int)) (x : ByteArray × Int) : List (List Int) :=
  addS so (plI b.l (lkR a.l b.l x.1).1).toNat (plK b.l (lkR a.l b.l x.1).1).toNat x.2
def mvP (a b : Cf) (xs : List (ByteArray × Int)) : List (List Int) := xs.foldl (mv1 a b) (unsP b)
def Lg.resize (q : Lg) (b : Cf) : Lg := ⟨b, mvP q.f b q.counts, q.cl⟩
/-- the errors, in their order -/
def opnE (cs : List Cf) (g : Stk) (i : Lid) (s : ByteArray) : Int := if (g i).isSome = true then 6 else if (findQ cs s).isSome = true then 0 else 7
def opnG (cs : List Cf) (g : Stk) (i : Lid) (s : ByteArray) : Stk :=
  if (g i).isSome = true then g else match findQ cs s with
    | some f => updS g i ⟨f, unsP f, false⟩
    | none => g
def cloE (g : Stk) (i : Lid) : Int := match g i with
  | some q => if q.cl = true then 10 else 0
  | none => 7
def cloG (g : Stk) (i : Lid) : Stk := match g i with
  | some q => updS g i { q with cl := true }
  | none => g
def onL (g : Stk) (p : Lg → Bool) (i : Lid) : Bool := match g i with
  | some q => p q
  | none => false
def twiP : List Lid → Bool
  | [] => false
  | i :: r => r.any (eqD i) || twiP r
def chkE (g : Stk) (is : List Lid) (n : Int) : Int :=
  if n < 1 ∨ is = [] then 2 else if twiP is = true then 6 else if is.any (fun i => (g i).isNone) = true then 7 else 0
def selP (g : Stk) (is : List Lid) (c : ByteArray) (n : Int) : Int :=
  if chkE g is n ≠ 0 then chkE g is n else if is.any (onL g fun q => q.cl) = true then 10 else if is.any (onL g fun q => !q.has c) = true then 16
  else if is.any (onL g fun q => decide (q.left c < n)) = true then 17 else 0
def canP (g : Stk) (is : List Lid) (c : ByteArray) (n : Int) : Int :=
  if chkE g is n ≠ 0 then chkE g is n else if is.any (onL g fun q => !q.has c) = true then 16
  else if is.any (onL g fun q => decide (q.sold c < n)) = true then 2 else 0
def addG1 (g : Stk) (c : ByteArray) (n : Int) (i : Lid) : Stk := match g i with
  | some q => updS g i (q.add c n)
  | none => g
def addG (g : Stk) (is : List Lid) (c : ByteArray) (n : Int) : Stk := is.foldl (fun g i => addG1 g c n i) g
def selG (g : Stk) (is : List Lid) (c : ByteArray) (n : Int) : Stk := if selP g is c n = 0 then addG g is c n else g
def canG (g : Stk) (is : List Lid) (c : ByteArray) (n : Int) : Stk := if canP g is c n = 0 then addG g is c (-n) else g
def rszE (cs : List Cf) (g : Stk) (i : Lid) (s : ByteArray) : Int := if (g i).isSome = true ∧ (findQ cs s).isSome = true then 0 else 7
def rszG (cs : List Cf) (g : Stk) (i : Lid) (s : ByteArray) : Stk := match g i, findQ cs s with
  | some q, some f => updS g i (q.resize f)
  | _, _ => g

/-- what a right leg is: K bounds what is sold in all -/
def totP (so : List (List Int)) : Int := sumI (so.map sumI)
structure OkL (K : Int) (q : Lg) : Prop where
  right : RightF q.f
  small : smallF q.f
  ok : OkCf q.f
  pos : 0 < q.f.l.length
  cls : ∀ b ∈ q.f.l, 0 < b.l.length
  len : q.so.length = q.f.l.length
  each : ∀ (i : Nat) (b : Cb) (s : List Int), q.f.l[i]? = some b → q.so[i]? = some s → s.length = b.l.length
  low : ∀ s ∈ q.so, ∀ x ∈ s, 0 ≤ x
  tot : totP q.so ≤ K
structure OkG (K : Int) (cs : List Cf) (g : Stk) : Prop where
  leg : ∀ i q, g i = some q → OkL K q ∧ q.f ∈ cs
end Go.Proofs.YtkghpapbifijcaaGreatDoor
