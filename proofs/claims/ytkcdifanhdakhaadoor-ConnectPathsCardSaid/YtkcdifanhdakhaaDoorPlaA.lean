/- Words for places in memory; walks of the leaves of package places: the searches by code and by city, City, Country. -/
import Derived.Test.YtkcdifanhdakhaaDoorZonB
import Derived.Test.YtkcdifanhdakhaaDoorPlaP
import Derived.Test.YtkcdifanhdakhaaDoorTextA
import Derived.Shelf.Abstract
import Derived.Deep.LoopGhost
namespace Go.Proofs.YtkcdifanhdakhaaDoor
open Go.RowKit Go.Shelf
set_option linter.unusedSimpArgs false
set_option linter.unusedVariables false

theorem bel_cell {w w' : World} {a : Addr} {v : Value} (h : Below w.heap.size w w') (hc : w.cell? a = some v) : w'.cell? a = some v := (h.cell (World.block_lt_of_cell? _ _ hc)).trans hc
theorem bel_get {w5 : World} {a : Addr} {v : Value} (h : w5.cell? a = some v) (W : World) (hS : SW w5 W) : W.cell? a = some v := bel_cell hS h
abbrev placesT : TypeId := 37
abbrev airT : TypeId := 44
abbrev dstT : TypeId := 97
/-- an airport -/
structure Air where
  code : ByteArray
  city : ByteArray
  land : ByteArray
  off : Int
  A : Option Addr
  c : Nat
  shs : Shs
abbrev encA (a : Air) : Value := .agg #[.string a.code, .string a.city, .string a.land, .int .i64 a.off, .slice a.A a.shs.length a.c]
abbrev encD (d : Dst) : Value := .agg #[.string d.f, .string d.t, .int .i64 d.m]
structure OkA (a : Air) : Prop where
  code : a.code.size ≤ maxLen
  city : a.city.size ≤ maxLen
  land : a.land.size ≤ maxLen
  len : a.shs.length < 9223372036854775808
  at' : ∀ k, k < a.shs.length → -9223372036854775808 ≤ shA a.shs k ∧ shA a.shs k ≤ 9223372036854775807
structure OkD (d : Dst) : Prop where
  f : d.f.size ≤ maxLen
  t : d.t.size ≤ maxLen
/-- the airport a lies at cell j of block b -/
structure AirAt (w : World) (b j : Nat) (a : Air) : Prop where
  c0 : w.cell? ⟨b, j, none⟩ = some (.string a.code)
  c1 : w.cell? ⟨b, j + 1, none⟩ = some (.string a.city)
  c2 : w.cell? ⟨b, j + 2, none⟩ = some (.string a.land)
  c3 : w.cell? ⟨b, j + 3, none⟩ = some (.int .i64 a.off)
  c4 : w.cell? ⟨b, j + 4, none⟩ = some (.slice a.A a.shs.length a.c)
  sh : ShL w a.A a.shs
theorem AirAt.more {w w' : World} {b j : Nat} {a : Air} (h : AirAt w b j a) (hb : Below w.heap.size w w') : AirAt w' b j a :=
  ⟨bel_cell hb h.c0, bel_cell hb h.c1, bel_cell hb h.c2, bel_cell hb h.c3, bel_cell hb h.c4, h.sh.more hb⟩
structure DstAt (w : World) (b j : Nat) (d : Dst) : Prop where
  c0 : w.cell? ⟨b, j, none⟩ = some (.string d.f)
  c1 : w.cell? ⟨b, j + 1, none⟩ = some (.string d.t)
  c2 : w.cell? ⟨b, j + 2, none⟩ = some (.int .i64 d.m)
theorem DstAt.more {w w' : World} {b j : Nat} {d : Dst} (h : DstAt w b j d) (hb : Below w.heap.size w w') : DstAt w' b j d := ⟨bel_cell hb h.c0, bel_cell hb h.c1, bel_cell hb h.c2⟩
/-- the airports l lie in the row at A -/
def AirL (w : World) (A : Option Addr) (l : List Air) : Prop := l = [] ∨ ∃ b o, A = some ⟨b, o, none⟩ ∧ b < w.heap.size ∧ ∀ i a, l[i]? = some a → AirAt w b (o + i * 5) a
def DstL (w : World) (A : Option Addr) (l : List Dst) : Prop := l = [] ∨ ∃ b o, A = some ⟨b, o, none⟩ ∧ b < w.heap.size ∧ ∀ i a, l[i]? = some a → DstAt w b (o + i * 3) a
theorem AirL.more {w w' : World} {A : Option Addr} {l : List Air} (h : AirL w A l) (hb : Below w.heap.size w w') : AirL w' A l := by
  rcases h with h | ⟨b, o, rfl, hlt, hc⟩
  · exact .inl h
  · exact .inr ⟨b, o, rfl, Nat.lt_of_lt_of_le hlt hb.size, fun i a hi => (hc i a hi).more hb⟩
theorem DstL.more {w w' : World} {A : Option Addr} {l : List Dst} (h : DstL w A l) (hb : Below w.heap.size w w') : DstL w' A l := by
  rcases h with h | ⟨b, o, rfl, hlt, hc⟩
  · exact .inl h
  · exact .inr ⟨b, o, rfl, Nat.lt_of_lt_of_le hlt hb.size, fun i a hi => (hc i a hi).more hb⟩
theorem AirL.at {w : World} {A : Option Addr} {l : List Air} (h : AirL w A l) {k : Nat} (hk : k < l.length) : ∃ b o a, A = some ⟨b, o, none⟩ ∧ b < w.heap.size ∧ l[k]? = some a ∧ AirAt w b (o + k * 5) a := by
  rcases h with h | ⟨b, o, hA, hlt, hc⟩
  · rw [h] at hk; simp at hk
  · exact ⟨b, o, l[k], hA, hlt, List.getElem?_eq_getElem hk, hc k _ (List.getElem?_eq_getElem hk)⟩
theorem DstL.at {w : World} {A : Option Addr} {l : List Dst} (h : DstL w A l) {k : Nat} (hk : k < l.length) : ∃ b o a, A = some ⟨b, o, none⟩ ∧ b < w.heap.size ∧ l[k]? = some a ∧ DstAt w b (o + k * 3) a := by
  rcases h with h | ⟨b, o, hA, hlt, hc⟩
  · rw [h] at hk; simp at hk
  · exact ⟨b, o, l[k], hA, hlt, List.getElem?_eq_getElem hk, hc k _ (List.getElem?_eq_getElem hk)⟩
/-- places by value -/
structure PV where
  A : Option Addr
  ca : Nat
  l : List Air
  D : Option Addr
  cd : Nat
  ds : List Dst
abbrev encP (p : PV) : Value := .agg #[.slice p.A p.l.length p.ca, .slice p.D p.ds.length p.cd]
structure PlL (w : World) (p : PV) : Prop where
  air : AirL w p.A p.l
  dst : DstL w p.D p.ds
theorem PlL.more {w w' : World} {p : PV} (h : PlL w p) (hb : Below w.heap.size w w') : PlL w' p := ⟨h.air.more hb, h.dst.more hb⟩
structure OkP (p : PV) : Prop where
  air : ∀ a ∈ p.l, OkA a
  dst : ∀ d ∈ p.ds, OkD d
  la : p.l.length ≤ 40
  ld : p.ds.length ≤ 60

set_option maxHeartbeats 400000 in
theorem rusable_any (d : Dst) (w : World) : Calls Tryd.prog 50 #[encD d] w fun e w' => e = .returned (.bool (useB d)) ∧ Below w.heap.size w w' := by
  have HU : Hid (useB d = (decide (1 ≤ d.m) && decide (d.m ≤ 20000))) := Lib.hid rfl
  by_cases h1 : 1 ≤ d.m
  all_goals
    go_enter Tryd.func50, Tryd.ntmps50
    go_wp2
    go_ret
    exact ⟨ret_bool (by rw [HU.out]; first | (simp [h1]; done) | (simp [h1]; omega)), bel_alloc _ _⟩
/-! ### slices.IndexFunc -/
/-- the first place of which p says true -/
def idxA (p : Air → Bool) : List Air → Int
  | [] => -1
  | a :: r => if p a then 0 else if idxA p r < 0 then -1 else idxA p r + 1
theorem idxA_find (p : Air → Bool) : ∀ l : List Air, (idxA p l = -1 ∧ l.find? p = none) ∨ ∃ (k : Nat) (a : Air), idxA p l = (k : Int) ∧ l[k]? = some a ∧ l.find? p = some a ∧ k < l.length
  | [] => .inl ⟨rfl, rfl⟩
  | a :: r => by
    cases h : p a
    · rcases idxA_find p r with ⟨h1, h2⟩ | ⟨k, x, h1, h2, h3, h4⟩
      · left
        exact ⟨by simp [idxA, h, h1], by simp [List.find?_cons, h, h2]⟩
      · right
        refine ⟨k + 1, x, ?_, by simpa using h2, by simp [List.find?_cons, h, h3], by simpa using h4⟩
        simp only [idxA, h, h1]
        rw [if_neg (by simp), if_neg (by omega)]
        omega
    · right
      exact ⟨0, a, by simp [idxA, h], by simp, by simp [List.find?_cons, h], by simp⟩
theorem idxA_yes {p : Air → Bool} {l : List Air} {k : Nat} {a : Air} (h : ∀ (j : Nat) (x : Air), j < k → l[j]? = some x → p x = false) (hk : l[k]? = some a) (hp : p a = true) : idxA p l = (k : Int) := by
  induction l generalizing k with
  | nil => simp at hk
  | cons b r ih =>
    cases k with
    | zero => simp at hk; subst hk; simp [idxA, hp]
    | succ k =>
      have h0 := h 0 b (by omega) (by simp)
      have := ih (k := k) (fun j x hj hx => h (j + 1) x (by omega) (by simpa using hx)) (by simpa using hk)
      simp only [idxA, h0, this]
      rw [if_neg (by simp), if_neg (by omega)]
      omega
theorem idxA_no {p : Air → Bool} {l : List Air} (h : ∀ (j : Nat) (x : Air), l[j]? = some x → p x = false) : idxA p l = -1 := by
  induction l with
  | nil => rfl
  | cons b r ih =>
    have h0 := h 0 b (by simp)
    have := ih (fun j x hx => h (j + 1) x (by simpa using hx))
    simp [idxA, h0, this]

set_option maxHeartbeats 4000000 in
set_option maxRecDepth 100000 in
theorem index_any (g : Nat) (cb : Array Value) (A : Option Addr) (c : Nat) (l : List Air) (p : Air → Bool) (w : World) (eg : ∀ args w, (callFunc g args).run Tryd.prog w = .ok (.enter g args) w) (hl : l.length ≤ 40) (hL : AirL w A l)
    (hf : ∀ (a : Air) (W : World), a ∈ l → Below w.heap.size w W → Calls Tryd.prog g (#[encA a] ++ cb) W fun e w' => e = .returned (.bool (p a)) ∧ Below W.heap.size W w') :
    Calls Tryd.prog 84 #[.slice A l.length c, .func (.func g) #[] cb] w fun e w' => e = .returned (.int .i64 (idxA p l)) ∧ Below w.heap.size w w' := by
  have HF := Lib.hid hf
  have HI : Hid (∀ (k : Nat) (a : Air), (∀ (j : Nat) (x : Air), j < k → l[j]? = some x → p x = false) → l[k]? = some a → p a = true → idxA p l = (k : Int)) := Lib.hid (fun k a => idxA_yes)
  have HN : Hid ((∀ (j : Nat) (x : Air), l[j]? = some x → p x = false) → idxA p l = -1) := Lib.hid idxA_no
  clear hf
  generalize idxA p l = r at *
  go_enter Tryd.func84, Tryd.ntmps84
  go_wp2
  go_loopw [8] (fun vi wr => ∃ k : Nat, k ≤ l.length ∧ vi = .int .i64 k ∧ Hid (∀ (j : Nat) (x : Air), j < k → l[j]? = some x → p x = false) ∧ Below w.heap.size w wr) (fun vi _ => l.length - (intOf vi).toNat)
  case atStart => exact ⟨0, Nat.zero_le _, rfl, Lib.hid (fun j x hj => absurd hj (Nat.not_lt_zero _)), Below.refl _ _⟩
  case round =>
    obtain ⟨k, hk, rfl, HK, hb⟩ := hrel
    by_cases hlt : k < l.length
    · obtain ⟨b, off, a, rfl, hgl, hka, ha⟩ := (hL.more hb).at hlt
      have i2 : (k : Int) < (l.length : Int) := by omega
      obtain ⟨z0, z1, z2, z3, z4, zs⟩ := ha
      have hc := HF.out a wr (List.mem_of_getElem? hka) hb
      cases hp : p a <;> rw [hp] at hc
      · have HP := Lib.hid hp
        have HA := Lib.hid hka
        clear hp hka
        go_wp2_with (refine hc.mono ?_; rintro e w' ⟨rfl, hb'⟩)
        go_roundw
        case rel =>
          refine ⟨k + 1, by omega, by go_num, Lib.hid (fun j x hj hx => ?_), hb.trans (hb'.mono hb.size)⟩
          by_cases hjk : j = k
          · subst hjk
            rw [HA.out] at hx
            cases hx
            exact HP.out
          · exact HK.out j x (by omega) hx
        case measure => simp [intOf]; omega
      · have HR := Lib.hid (HI.out k a HK.out hka hp)
        clear hp hka
        go_wp2_with (refine hc.mono ?_; rintro e w' ⟨rfl, hb'⟩)
        go_ret
        exact ⟨by rw [HR.out]; rfl, hb.trans (hb'.mono hb.size)⟩
    · have HR := Lib.hid (HN.out (fun j x hx => HK.out j x (by have := (List.getElem?_eq_some_iff.1 hx).1; omega) hx))
      go_wp2
      go_ret
      exact ⟨by rw [HR.out]; rfl, hb⟩

end Go.Proofs.YtkcdifanhdakhaaDoor
