/- Words and walks that the laws below ask: PlaA, PlaB, PlaM, PlaQ, PlaH, OwnR, OwnS, PlaK, FltP, FltA, PlaC, PlaI, PlaJ0, PlaJ1, PlaJ2, PlaJ3, PlaD, FliA. -/
import Derived.Shelf.Abstract
import Derived.Deep.LoopGhost
import Derived.Maps.OwnSet
import Derived.Deep.RegionHeld3
import Derived.Deep.AppendLies
import Derived.Laws.OwnMore
import Derived.Deep.RegionLaw
import Derived.Test.YtldillnjnjkkgaaGreatDoorPk1
/- Words for places in memory; walks of the leaves of package places: the searches by code and by city, City, Country. -/
namespace Go.Proofs.YtldillnjnjkkgaaGreatDoor
open Go.RowKit Go.Shelf
set_option linter.unusedSimpArgs false
set_option linter.unusedVariables false

theorem bel_cell {w w' : World} {a : Addr} {v : Value} (h : Below w.heap.size w w') (hc : w.cell? a = some v) : w'.cell? a = some v := (h.cell (World.block_lt_of_cell? _ _ hc)).trans hc
theorem bel_get {w5 : World} {a : Addr} {v : Value} (h : w5.cell? a = some v) (W : World) (hS : SW w5 W) : W.cell? a = some v := bel_cell hS h
abbrev placesT : TypeId := 31
abbrev airT : TypeId := 93
abbrev dstT : TypeId := 241
/-- an airport -/
structure Air where
  code : ByteArray
  city : ByteArray
  land : ByteArray
  off : Int
  A : Option Addr
  c : Nat
  shs : Shs
abbrev encA (a : Air) : Value := .agg #[.string a.code, .string a.city, .string a.land, .int .i64 a.off, .slice a.A a.shs.length a.c]
abbrev encD (d : Dst) : Value := .agg #[.string d.f, .string d.t, .int .i64 d.m]
structure OkA (a : Air) : Prop where
  code : a.code.size ≤ maxLen
  city : a.city.size ≤ maxLen
  land : a.land.size ≤ maxLen
  len : a.shs.length < 9223372036854775808
  at' : ∀ k, k < a.shs.length → -9223372036854775808 ≤ shA a.shs k ∧ shA a.shs k ≤ 9223372036854775807
structure OkD (d : Dst) : Prop where
  f : d.f.size ≤ maxLen
  t : d.t.size ≤ maxLen
/-- the airport a lies at cell j of block b -/
structure AirAt (w : World) (b j : Nat) (a : Air) : Prop where
  c0 : w.cell? ⟨b, j, none⟩ = some (.string a.code)
  c1 : w.cell? ⟨b, j + 1, none⟩ = some (.string a.city)
  c2 : w.cell? ⟨b, j + 2, none⟩ = some (.string a.land)
  c3 : w.cell? ⟨b, j + 3, none⟩ = some (.int .i64 a.off)
  c4 : w.cell? ⟨b, j + 4, none⟩ = some (.slice a.A a.shs.length a.c)
  sh : ShL w a.A a.shs
theorem AirAt.more {w w' : World} {b j : Nat} {a : Air} (h : AirAt w b j a) (hb : Below w.heap.size w w') : AirAt w' b j a :=
  ⟨bel_cell hb h.c0, bel_cell hb h.c1, bel_cell hb h.c2, bel_cell hb h.c3, bel_cell hb h.c4, h.sh.more hb⟩
structure DstAt (w : World) (b j : Nat) (d : Dst) : Prop where
  c0 : w.cell? ⟨b, j, none⟩ = some (.string d.f)
  c1 : w.cell? ⟨b, j + 1, none⟩ = some (.string d.t)
  c2 : w.cell? ⟨b, j + 2, none⟩ = some (.int .i64 d.m)
theorem DstAt.more {w w' : World} {b j : Nat} {d : Dst} (h : DstAt w b j d) (hb : Below w.heap.size w w') : DstAt w' b j d := ⟨bel_cell hb h.c0, bel_cell hb h.c1, bel_cell hb h.c2⟩
/-- the airports l lie in the row at A -/
def AirL (w : World) (A : Option Addr) (l : List Air) : Prop := l = [] ∨ ∃ b o, A = some ⟨b, o, none⟩ ∧ b < w.heap.size ∧ ∀ i a, l[i]? = some a → AirAt w b (o + i * 5) a
def DstL (w : World) (A : Option Addr) (l : List Dst) : Prop := l = [] ∨ ∃ b o, A = some ⟨b, o, none⟩ ∧ b < w.heap.size ∧ ∀ i a, l[i]? = some a → DstAt w b (o + i * 3) a
theorem AirL.more {w w' : World} {A : Option Addr} {l : List Air} (h : AirL w A l) (hb : Below w.heap.size w w') : AirL w' A l := by
  rcases h with h | ⟨b, o, rfl, hlt, hc⟩
  · exact .inl h
  · exact .inr ⟨b, o, rfl, Nat.lt_of_lt_of_le hlt hb.size, fun i a hi => (hc i a hi).more hb⟩
theorem DstL.more {w w' : World} {A : Option Addr} {l : List Dst} (h : DstL w A l) (hb : Below w.heap.size w w') : DstL w' A l := by
  rcases h with h | ⟨b, o, rfl, hlt, hc⟩
  · exact .inl h
  · exact .inr ⟨b, o, rfl, Nat.lt_of_lt_of_le hlt hb.size, fun i a hi => (hc i a hi).more hb⟩
theorem AirL.at {w : World} {A : Option Addr} {l : List Air} (h : AirL w A l) {k : Nat} (hk : k < l.length) : ∃ b o a, A = some ⟨b, o, none⟩ ∧ b < w.heap.size ∧ l[k]? = some a ∧ AirAt w b (o + k * 5) a := by
  rcases h with h | ⟨b, o, hA, hlt, hc⟩
  · rw [h] at hk; simp at hk
  · exact ⟨b, o, l[k], hA, hlt, List.getElem?_eq_getElem hk, hc k _ (List.getElem?_eq_getElem hk)⟩
theorem DstL.at {w : World} {A : Option Addr} {l : List Dst} (h : DstL w A l) {k : Nat} (hk : k < l.length) : ∃ b o a, A = some ⟨b, o, none⟩ ∧ b < w.heap.size ∧ l[k]? = some a ∧ DstAt w b (o + k * 3) a := by
  rcases h with h | ⟨b, o, hA, hlt, hc⟩
  · rw [h] at hk; simp at hk
  · exact ⟨b, o, l[k], hA, hlt, List.getElem?_eq_getElem hk, hc k _ (List.getElem?_eq_getElem hk)⟩
/-- places by value -/
structure PV where
  A : Option Addr
  ca : Nat
  l : List Air
  D : Option Addr
  cd : Nat
  ds : List Dst
abbrev encP (p : PV) : Value := .agg #[.slice p.A p.l.length p.ca, .slice p.D p.ds.length p.cd]
structure PlL (w : World) (p : PV) : Prop where
  air : AirL w p.A p.l
  dst : DstL w p.D p.ds
theorem PlL.more {w w' : World} {p : PV} (h : PlL w p) (hb : Below w.heap.size w w') : PlL w' p := ⟨h.air.more hb, h.dst.more hb⟩
set_option maxHeartbeats 400000 in
theorem rusable_any (d : Dst) (w : World) : Calls Tryz.prog 215 #[encD d] w fun e w' => e = .returned (.bool (useB d)) ∧ Below w.heap.size w w' := by
  have HU : Hid (useB d = (decide (1 ≤ d.m) && decide (d.m ≤ 20000))) := Lib.hid rfl
  by_cases h1 : 1 ≤ d.m
  all_goals
    go_enter Tryz.func215, Tryz.ntmps215
    go_wp2
    go_ret
    exact ⟨ret_bool (by rw [HU.out]; first | (simp [h1]; done) | (simp [h1]; omega)), bel_alloc _ _⟩
/-! ### slices.IndexFunc -/
/-- the first place of which p says true -/
def idxA (p : Air → Bool) : List Air → Int
  | [] => -1
  | a :: r => if p a then 0 else if idxA p r < 0 then -1 else idxA p r + 1
theorem idxA_find (p : Air → Bool) : ∀ l : List Air, (idxA p l = -1 ∧ l.find? p = none) ∨ ∃ (k : Nat) (a : Air), idxA p l = (k : Int) ∧ l[k]? = some a ∧ l.find? p = some a ∧ k < l.length
  | [] => .inl ⟨rfl, rfl⟩
  | a :: r => by
    cases h : p a
    · rcases idxA_find p r with ⟨h1, h2⟩ | ⟨k, x, h1, h2, h3, h4⟩
      · left
        exact ⟨by simp [idxA, h, h1], by simp [List.find?_cons, h, h2]⟩
      · right
        refine ⟨k + 1, x, ?_, by simpa using h2, by simp [List.find?_cons, h, h3], by simpa using h4⟩
        simp only [idxA, h, h1]
        rw [if_neg (by simp), if_neg (by omega)]
        omega
    · right
      exact ⟨0, a, by simp [idxA, h], by simp, by simp [List.find?_cons, h], by simp⟩
theorem idxA_yes {p : Air → Bool} {l : List Air} {k : Nat} {a : Air} (h : ∀ (j : Nat) (x : Air), j < k → l[j]? = some x → p x = false) (hk : l[k]? = some a) (hp : p a = true) : idxA p l = (k : Int) := by
  induction l generalizing k with
  | nil => simp at hk
  | cons b r ih =>
    cases k with
    | zero => simp at hk; subst hk; simp [idxA, hp]
    | succ k =>
      have h0 := h 0 b (by omega) (by simp)
      have := ih (k := k) (fun j x hj hx => h (j + 1) x (by omega) (by simpa using hx)) (by simpa using hk)
      simp only [idxA, h0, this]
      rw [if_neg (by simp), if_neg (by omega)]
      omega
theorem idxA_no {p : Air → Bool} {l : List Air} (h : ∀ (j : Nat) (x : Air), l[j]? = some x → p x = false) : idxA p l = -1 := by
  induction l with
  | nil => rfl
  | cons b r ih =>
    have h0 := h 0 b (by simp)
    have := ih (fun j x hx => h (j + 1) x (by simpa using hx))
    simp [idxA, h0, this]

set_option maxHeartbeats 4000000 in
set_option maxRecDepth 100000 in
theorem index_any (g : Nat) (cb : Array Value) (A : Option Addr) (c : Nat) (l : List Air) (p : Air → Bool) (w : World) (eg : ∀ args w, (callFunc g args).run Tryz.prog w = .ok (.enter g args) w) (hl : l.length ≤ 40) (hL : AirL w A l)
    (hf : ∀ (a : Air) (W : World), a ∈ l → Below w.heap.size w W → Calls Tryz.prog g (#[encA a] ++ cb) W fun e w' => e = .returned (.bool (p a)) ∧ Below W.heap.size W w') :
    Calls Tryz.prog 261 #[.slice A l.length c, .func (.func g) #[] cb] w fun e w' => e = .returned (.int .i64 (idxA p l)) ∧ Below w.heap.size w w' := by
  have HF := Lib.hid hf
  have HI : Hid (∀ (k : Nat) (a : Air), (∀ (j : Nat) (x : Air), j < k → l[j]? = some x → p x = false) → l[k]? = some a → p a = true → idxA p l = (k : Int)) := Lib.hid (fun k a => idxA_yes)
  have HN : Hid ((∀ (j : Nat) (x : Air), l[j]? = some x → p x = false) → idxA p l = -1) := Lib.hid idxA_no
  clear hf
  generalize idxA p l = r at *
  go_enter Tryz.func261, Tryz.ntmps261
  go_wp2
  go_loopw [8] (fun vi wr => ∃ k : Nat, k ≤ l.length ∧ vi = .int .i64 k ∧ Hid (∀ (j : Nat) (x : Air), j < k → l[j]? = some x → p x = false) ∧ Below w.heap.size w wr) (fun vi _ => l.length - (intOf vi).toNat)
  case atStart => exact ⟨0, Nat.zero_le _, rfl, Lib.hid (fun j x hj => absurd hj (Nat.not_lt_zero _)), Below.refl _ _⟩
  case round =>
    obtain ⟨k, hk, rfl, HK, hb⟩ := hrel
    by_cases hlt : k < l.length
    · obtain ⟨b, off, a, rfl, hgl, hka, ha⟩ := (hL.more hb).at hlt
      have i2 : (k : Int) < (l.length : Int) := by omega
      obtain ⟨z0, z1, z2, z3, z4, zs⟩ := ha
      have hc := HF.out a wr (List.mem_of_getElem? hka) hb
      cases hp : p a <;> rw [hp] at hc
      · have HP := Lib.hid hp
        have HA := Lib.hid hka
        clear hp hka
        go_wp2_with (refine hc.mono ?_; rintro e w' ⟨rfl, hb'⟩)
        go_roundw
        case rel =>
          refine ⟨k + 1, by omega, by go_num, Lib.hid (fun j x hj hx => ?_), hb.trans (hb'.mono hb.size)⟩
          by_cases hjk : j = k
          · subst hjk
            rw [HA.out] at hx
            cases hx
            exact HP.out
          · exact HK.out j x (by omega) hx
        case measure => simp [intOf]; omega
      · have HR := Lib.hid (HI.out k a HK.out hka hp)
        clear hp hka
        go_wp2_with (refine hc.mono ?_; rintro e w' ⟨rfl, hb'⟩)
        go_ret
        exact ⟨by rw [HR.out]; rfl, hb.trans (hb'.mono hb.size)⟩
    · have HR := Lib.hid (HN.out (fun j x hx => HK.out j x (by have := (List.getElem?_eq_some_iff.1 hx).1; omega) hx))
      go_wp2
      go_ret
      exact ⟨by rw [HR.out]; rfl, hb⟩

end Go.Proofs.YtldillnjnjkkgaaGreatDoor

/- Walks of the closures, of byCode, byCity, City and Country. -/
namespace Go.Proofs.YtldillnjnjkkgaaGreatDoor
open Go.RowKit Go.Shelf
set_option linter.unusedSimpArgs false
set_option linter.unusedVariables false

abbrev noB : ByteArray := ⟨#[]⟩
def airZ : Air := ⟨noB, noB, noB, 0, none, 0, []⟩
/-- texts are equal -/
def eqS (s t : ByteArray) : Bool := s.toList == t.toList
theorem eqS_iff (s t : ByteArray) : eqS s t = true ↔ s = t := by
  unfold eqS
  rw [beq_iff_eq, ByteArray.toList_eq, ByteArray.toList_eq]
  constructor
  · intro h
    have := congrArg List.toArray h
    simp at this
    cases s; cases t
    simpa using this
  · rintro rfl; rfl
def findC (l : List Air) (s : ByteArray) : Option Air := l.find? fun a => eqS a.code s
def findT (l : List Air) (s : ByteArray) : Option Air := l.find? fun a => eqS a.city s
set_option maxHeartbeats 400000 in
theorem codec_any (a : Air) (s : ByteArray) (B : Nat) (W : World) (z : W.cell? ⟨B, 0, none⟩ = some (.string s)) :
    Calls Tryz.prog 262 #[encA a, .pointer (some ⟨B, 0, none⟩)] W fun e w' => e = .returned (.bool (eqS a.code s)) ∧ Below W.heap.size W w' := by
  have hlt := World.block_lt_of_cell? _ _ z
  have z' := (Below.cell (bel_alloc W (.cells #[.string a.code, .string a.city, .string a.land, .int .i64 a.off, .slice a.A a.shs.length a.c] airT)) (p := ⟨B, 0, none⟩) hlt).trans z
  go_enter Tryz.func262, Tryz.ntmps262
  go_wp2
  go_ret
  exact ⟨rfl, bel_alloc _ _⟩
theorem eg_code : ∀ args w, (callFunc 262 args).run Tryz.prog w = .ok (.enter 262 args) w := enters_of Tryz.func262 (by kernel_rfl) rfl
/-- the two boxes that byCode makes: the places' and the text's -/
def B2 (w : World) (p : PV) (s : ByteArray) : World := (w.alloc (.cells #[.slice p.A p.l.length p.ca, .slice p.D p.ds.length p.cd] placesT)).alloc (.cells #[.string s] 9)
theorem B2.bel (w : World) (p : PV) (s : ByteArray) : Below w.heap.size w (B2 w p s) := (bel_alloc _ _).alloc (by simp) _
theorem B2.zs (w : World) (p : PV) (s : ByteArray) : (B2 w p s).cell? ⟨w.heap.size + 1, 0, none⟩ = some (.string s) := by
  have h := cells_new (w.alloc (.cells #[.slice p.A p.l.length p.ca, .slice p.D p.ds.length p.cd] placesT)) #[.string s] 9 0
  rw [World.size_alloc] at h
  exact h
set_option maxHeartbeats 1000000 in
theorem byCode_any (p : PV) (s : ByteArray) (w : World) (hl : p.l.length ≤ 40) (hL : AirL w p.A p.l) :
    Calls Tryz.prog 225 #[encP p, .string s] w fun e w' => e = .returned (.int .i64 (idxA (fun a => eqS a.code s) p.l)) ∧ Below w.heap.size w w' := by
  have CI := Lib.hid (index_any _ #[.pointer (some ⟨w.heap.size + 1, 0, none⟩)] p.A p.ca p.l (fun a => eqS a.code s) (B2 w p s) eg_code hl (hL.more (B2.bel w p s))
    (fun a W ha hW => codec_any a s _ W (bel_cell hW (B2.zs w p s))))
  have hb := B2.bel w p s
  unfold B2 at *
  generalize idxA (fun a => eqS a.code s) p.l = r at *
  go_enter Tryz.func225, Tryz.ntmps225
  go_wp2_with (go_at_call 261; refine CI.out.mono ?_; rintro e w' ⟨rfl, hb'⟩)
  go_ret
  exact ⟨rfl, hb.trans (hb'.mono hb.size)⟩
end Go.Proofs.YtldillnjnjkkgaaGreatDoor

/- A map that the call makes, as a plain function from keys to values, whatever its elements are. -/
namespace Go.Proofs.YtldillnjnjkkgaaGreatDoor
open Go.RowKit Go.Maps Go.MapKept
open Go.WideElems (Fit rd rg pl rd_key rd_val rg_of rd_mk)
open Go.ChangeMaps (setBlock putKey notKey heap_setBlock_same heap_setBlock_other)
open Go.WideMaps (keyOf_string_mk)
set_option linter.unusedSimpArgs false
set_option linter.unusedVariables false
set_option linter.unusedSectionVars false

/-- an element, read as the value that it is -/
def Rh (v : Value) : Option (DataW Value × List MemPlace) := some (.held v, [])
theorem rd_h' {P : Program} {k : TypeId} {x : MapEntry} {l : Lit} (h : keyOf P k x.key = some l) : rd P k Rh x = some (l, .held x.val) := by
  unfold rd
  rw [h]
  rfl
theorem rd_h {P : Program} {k : TypeId} {x : MapEntry} {l : Lit} (h : keyOf P k x.key = some l) : rg P k Rh x = (l, .held x.val) := rg_of (rd_h' h)

section
variable {κ : Type} [DecidableEq κ] {P : Program} {k t e : TypeId} {en : κ → Value} {w w' : World} {b n : Nat} {g : κ → Option Value}
/-- block b is a map of at most n entries: at key c it has g c -/
def MapK (P : Program) (k : TypeId) (en : κ → Value) (w : World) (b n : Nat) (g : κ → Option Value) : Prop :=
  ∃ es clock, w.heap[b]? = some (.map es clock) ∧ Fit P k Rh es clock ∧ es.size ≤ n ∧ ∀ c v, g c = some v ↔ ∃ x ∈ es.toList, x.key = en c ∧ x.val = v
theorem MapK.made (w : World) (P : Program) (k : TypeId) (en : κ → Value) : MapK P k en (w.alloc (.map #[] 0)) w.heap.size 0 (fun _ => none) :=
  ⟨#[], 0, (MapKept.heap_alloc w _).1, ⟨by simp, stamped_empty 0, by simp⟩, Nat.le_refl _, by simp⟩
theorem MapK.lt (h : MapK P k en w b n g) : b < w.heap.size := by
  obtain ⟨es, clock, hb, _⟩ := h
  exact (Array.getElem?_eq_some_iff.1 hb).1
theorem MapK.same (h : MapK P k en w b n g) (he : w'.heap[b]? = w.heap[b]?) : MapK P k en w' b n g := by
  obtain ⟨es, clock, hb, r⟩ := h
  exact ⟨es, clock, he.trans hb, r⟩
theorem MapK.more (h : MapK P k en w b n g) (hb : Below w.heap.size w w') : MapK P k en w' b n g := h.same (hb.block b h.lt)
theorem MapK.grown {row : Option Nat} (h : MapK P k en w b n g) (hg : w.grownBy w' row) (hne : some b ≠ row) : MapK P k en w' b n g := h.same (hg.block b h.lt hne)
theorem MapK.look (h : MapK P k en w b n g) (K : Keyed P k) (ht : P.underlying t = some (.map k e)) {z : Value} (hz : (zeroValue e).run P w = .ok z w) {c : κ} {kl : Lit} (hkey : keyOf P k (en c) = some kl) (ok : Bool) :
    (Instr.lookup t (.map (some b)) (en c) ok).run P w = .ok (if ok then .tuple #[(g c).getD z, .bool (g c).isSome] else (g c).getD z) w := by
  obtain ⟨es, clock, hb, F, _, hg⟩ := h
  rcases Maps.fit_look ok K ht hz hb F hkey with ⟨hrun, hno, _⟩ | ⟨e0, y, hm, he, hrun, _⟩
  · have hn : g c = none := by
      cases hc : g c with
      | none => rfl
      | some v =>
        obtain ⟨x, hx, hxe, _⟩ := (hg c v).1 hc
        exact absurd hxe (hno x hx)
    rw [hrun, hn]
    rfl
  · have hs : g c = some e0.val := (hg c _).2 ⟨e0, hm, he, rfl⟩
    rw [hrun, hs]
    rfl
theorem MapK.store (h : MapK P k en w b n g) (K : Keyed P k) (hen : ∀ c c', en c = en c' → c = c') (ht : P.underlying t = some (.map k e)) (hn : n < maxLen) {c : κ} {kl : Lit} (hkey : keyOf P k (en c) = some kl) (val : Value) :
    ∃ w', (Instr.mapUpdate t (.map (some b)) (en c) val).run P w = .ok () w' ∧ MapK P k en w' b (n + 1) (fun c' => if c' = c then some val else g c') ∧ w.grownBy w' (some b) := by
  obtain ⟨es, clock, hb, F, hs, hg⟩ := h
  obtain ⟨es', clock', hrun, F', hput, _, _, hmem⟩ := Maps.fit_store (R' := Rh) K ht hb F (Nat.lt_of_le_of_lt hs hn) (fun _ _ _ _ hz => hz) hkey (show Rh val = some (.held val, []) from rfl)
  refine ⟨_, hrun, ⟨es', clock', heap_setBlock_same hb _, F', ?_, fun c' v => ?_⟩, ⟨rfl, rfl, rfl, by simp [setBlock], fun i _ hi => heap_setBlock_other hb _ (fun e => hi (by rw [e]))⟩⟩
  · have e1 : es'.size = ((es'.toList.map (rg P k Rh)).foldr DataW.insert []).length := by rw [length_sorted]; simp
    rw [e1, hput]
    unfold putKey
    rw [length_insert]
    have e2 := List.length_filter_le (notKey kl) ((es.toList.map (rg P k Rh)).foldr DataW.insert [])
    rw [length_sorted] at e2
    simp at e2
    omega
  · -- who stands among the new entries
    have back : ∀ x, x ∈ es.toList → x.key ≠ en c → ∃ x' ∈ es'.toList, x'.key = x.key ∧ x'.val = x.val := by
      intro x hx hne
      obtain ⟨y, hy⟩ := F.reads x hx
      have hk := rd_key hy
      have h1 : rg P k Rh x ∈ (es'.toList.map (rg P k Rh)).foldr DataW.insert [] := by
        rw [hput]
        unfold putKey
        refine ChangeMaps.mem_insert_iff.2 (.inr (List.mem_filter.2 ⟨(WideShapes.sorted_perm _).mem_iff.2 (List.mem_map.2 ⟨x, hx, rfl⟩), ?_⟩))
        refine (notKey_iff (K.key hkey)).2 fun e1 => hne ?_
        rw [rd_h hk] at e1
        dsimp only at e1
        rw [e1] at hk
        exact K.inj hk hkey
      obtain ⟨x', hx', he'⟩ := List.mem_map.1 ((WideShapes.sorted_perm _).mem_iff.1 h1)
      obtain ⟨y', hy'⟩ := F'.reads x' hx'
      have hk' := rd_key hy'
      rw [rd_h hk, rd_h hk'] at he'
      simp only [Prod.mk.injEq, DataW.held.injEq] at he'
      refine ⟨x', hx', ?_, he'.2⟩
      rw [he'.1] at hk'
      exact K.inj hk' hk
    have new : ∃ x' ∈ es'.toList, x'.key = en c ∧ x'.val = val := by
      have h1 : ((kl, .held val) : Lit × DataW Value) ∈ (es'.toList.map (rg P k Rh)).foldr DataW.insert [] := by
        rw [hput]
        unfold putKey
        exact ChangeMaps.mem_insert_iff.2 (.inl rfl)
      obtain ⟨x', hx', he'⟩ := List.mem_map.1 ((WideShapes.sorted_perm _).mem_iff.1 h1)
      obtain ⟨y', hy'⟩ := F'.reads x' hx'
      have hk' := rd_key hy'
      rw [rd_h hk'] at he'
      simp only [Prod.mk.injEq, DataW.held.injEq] at he'
      refine ⟨x', hx', ?_, he'.2⟩
      rw [he'.1] at hk'
      exact K.inj hk' hkey
    have once : ∀ x ∈ es'.toList, ∀ x' ∈ es'.toList, x.key = x'.key → x.val = x'.val := by
      intro x hx x' hx' hxx
      have hn := ((stamped_iff es' clock').1 F'.stamped).2.2
      apply Classical.byContradiction
      intro hv
      have hne : x ≠ x' := fun e => hv (by rw [e])
      have := List.pairwise_iff_getElem.1 hn
      obtain ⟨i, hi, rfl⟩ := List.getElem_of_mem hx
      obtain ⟨j, hj, rfl⟩ := List.getElem_of_mem hx'
      rcases Nat.lt_trichotomy i j with h | h | h
      · exact this i j hi hj h hxx
      · subst h; exact hne rfl
      · exact this j i hj hi h hxx.symm
    by_cases hc : c' = c
    · subst hc
      show (if c' = c' then some val else g c') = some v ↔ _
      rw [if_pos rfl]
      obtain ⟨x', h1, h2, h3⟩ := new
      constructor
      · intro h
        cases h
        exact ⟨x', h1, h2, h3⟩
      · rintro ⟨x, hx, hxe, rfl⟩
        rw [once x hx x' h1 (hxe.trans h2.symm), h3]
    · show (if c' = c then some val else g c') = some v ↔ _
      rw [if_neg hc, hg]
      constructor
      · rintro ⟨x, hx, hxe, rfl⟩
        obtain ⟨x', h1, h2, h3⟩ := back x hx (fun e => hc (hen _ _ (hxe.symm.trans e)))
        exact ⟨x', h1, h2.trans hxe, h3⟩
      · rintro ⟨x, hx, hxe, rfl⟩
        rcases hmem x hx with ⟨h1, _⟩ | ⟨h1, _⟩
        · exact ⟨x, h1, hxe, rfl⟩
        · exact absurd (hen _ _ (hxe.symm.trans h1)) hc
/-- 'm[k] = v' at the operation -/
theorem wpList_put {ops : Array Oper} {rest : List Oper} {o : Oper} {a : Act} {Q : Exit → Act → World → Prop} (hgd : o.guard = none) (m x v : Operand) (t : TypeId) (hop : o.op = Op.mapUpdate t m x v)
    (K : Keyed P k) (hen : ∀ c c', en c = en c' → c = c') (ht : P.underlying t = some (.map k e)) (hm : a.eval m = .map (some b)) (h : MapK P k en w b n g) (hn : n < maxLen) (c : κ) (kl : Lit) (hx : a.eval x = en c) (hkey : keyOf P k (en c) = some kl)
    (hK : ∀ w', MapK P k en w' b (n + 1) (fun c' => if c' = c then some (a.eval v) else g c') → w.grownBy w' (some b) → wpList P ops Q rest (a.put o.dst undef) w') : wpList P ops Q (o :: rest) a w := by
  refine wpList_plain hgd fun K' hK' => ?_
  obtain ⟨w', hrun, r1, r2⟩ := h.store (val := a.eval v) K hen ht hn hkey
  unfold Oper.wp
  simp [execOp, hop, hm, hx, hrun, Result.andThen]
  exact hK' _ _ (hK w' r1 r2)
end

theorem zeroB (w : World) : (zeroValue 4).run Tryz.prog w = .ok (.bool false) w := by kernel_rfl
end Go.Proofs.YtldillnjnjkkgaaGreatDoor

/- Plain facts on a heap of stops. -/
namespace Go.Proofs.YtldillnjnjkkgaaGreatDoor
set_option linter.unusedSimpArgs false
set_option linter.unusedVariables false

def el (l : List Stp) (i : Nat) : Stp := l.getD i (⟨#[]⟩, 0)
def key (l : List Stp) (i : Nat) : Nat := (el l i).2
/-- the first n are a heap -/
def HeapB (l : List Stp) (n : Nat) : Prop := ∀ i, 0 < i → i < n → key l ((i - 1) / 2) ≤ key l i
def UpX (l : List Stp) (j : Nat) : Prop :=
  (∀ i, 0 < i → i < l.length → i ≠ j → key l ((i - 1) / 2) ≤ key l i) ∧ (∀ i, 0 < i → i < l.length → (i - 1) / 2 = j → 0 < j → key l ((j - 1) / 2) ≤ key l i)
theorem UpX.done {l : List Stp} {j : Nat} (h : UpX l j) (hj : j = 0 ∨ key l ((j - 1) / 2) ≤ key l j) : HeapB l l.length := by
  intro i h0 hi
  by_cases e : i = j
  · subst e
    rcases hj with h | h
    · omega
    · exact h
  · exact h.1 i h0 hi e
def DownX (l : List Stp) (n i : Nat) : Prop :=
  (∀ k, 0 < k → k < n → (k - 1) / 2 ≠ i → key l ((k - 1) / 2) ≤ key l k) ∧ (∀ k, 0 < k → k < n → (k - 1) / 2 = i → 0 < i → key l ((i - 1) / 2) ≤ key l k)
theorem DownX.done {l : List Stp} {n i : Nat} (h : DownX l n i) (hc : ∀ k, 0 < k → k < n → (k - 1) / 2 = i → key l i ≤ key l k) : HeapB l n := by
  intro k h0 hk
  by_cases e : (k - 1) / 2 = i
  · rw [e]
    exact hc k h0 hk e
  · exact h.1 k h0 hk e
theorem HeapB.min {l : List Stp} {n : Nat} (h : HeapB l n) : ∀ k, k < n → key l 0 ≤ key l k := by
  intro k
  induction k using Nat.strongRecOn with
  | ind k ih =>
    intro hk
    by_cases e : k = 0
    · subst e; exact Nat.le_refl _
    · exact Nat.le_trans (ih ((k - 1) / 2) (by omega) (by omega)) (h k (by omega) hk)
end Go.Proofs.YtldillnjnjkkgaaGreatDoor

/- Walks of the queue's methods. -/
namespace Go.Proofs.YtldillnjnjkkgaaGreatDoor
open Go.RowKit Go.Shelf
set_option linter.unusedSimpArgs false
set_option linter.unusedVariables false

/-- of the blocks that are there, none has turned but those of which X holds -/
structure But (w w' : World) (X : Nat → Prop) : Prop where
  os : w'.os = w.os
  tape : w'.tape = w.tape
  output : w'.output = w.output
  size : w.heap.size ≤ w'.heap.size
  block : ∀ k, k < w.heap.size → ¬ X k → w'.heap[k]? = w.heap[k]?
theorem But.refl (w : World) (X : Nat → Prop) : But w w X := ⟨rfl, rfl, rfl, Nat.le_refl _, fun _ _ _ => rfl⟩
theorem But.trans {w w' w'' : World} {X Y : Nat → Prop} (h : But w w' X) (h' : But w' w'' Y) (hx : ∀ k, k < w.heap.size → Y k → X k) : But w w'' X :=
  ⟨h'.os.trans h.os, h'.tape.trans h.tape, h'.output.trans h.output, Nat.le_trans h.size h'.size, fun k hk hn => (h'.block k (Nat.lt_of_lt_of_le hk h.size) fun hy => hn (hx k hk hy)).trans (h.block k hk hn)⟩
theorem But.of_below {w w' : World} {X : Nat → Prop} (h : Below w.heap.size w w') : But w w' X := ⟨h.os, h.tape, h.output, h.size, fun k hk _ => h.block k hk⟩
theorem But.below {w w' : World} {X : Nat → Prop} (h : But w w' X) {B : Nat} (hB : B ≤ w.heap.size) (hx : ∀ k, k < B → ¬ X k) : Below B w w' := ⟨h.os, h.tape, h.output, h.size, fun k hk => h.block k (Nat.lt_of_lt_of_le hk hB) (hx k hk)⟩
theorem But.setCell (w : World) (r j : Nat) (v : Value) : But w (w.setCell ⟨r, j, none⟩ v) (fun k => k = r) := by
  refine ⟨?_, ?_, ?_, ?_, fun k _ hk => heap_setCell_other w _ k v hk⟩ <;> simp [World.setCell] <;> (try split) <;> simp
end Go.Proofs.YtldillnjnjkkgaaGreatDoor

/- Rows of a call's own, whatever their elements are: a kit for append, for reading and for what a call has changed. -/
namespace Go.Proofs.YtldillnjnjkkgaaGreatDoor
open Go.RowKit Go.Shelf
set_option linter.unusedSimpArgs false
set_option linter.unusedVariables false

section
variable {α : Type} {enc : α → List Value}
def cellsR (enc : α → List Value) (l : List α) : List Value := l.flatMap enc
theorem cellsR_len {sz : Nat} (h : ∀ x, (enc x).length = sz) (l : List α) : (cellsR enc l).length = l.length * sz := by
  induction l with
  | nil => simp [cellsR]
  | cons x r ih =>
    simp only [cellsR, List.flatMap_cons, List.length_append, List.length_cons, h] at ih ⊢
    rw [ih, Nat.add_mul]; omega
theorem cellsR_app (l m : List α) : cellsR enc (l ++ m) = cellsR enc l ++ cellsR enc m := by simp [cellsR]
theorem cellsR_one (x : α) : cellsR enc [x] = enc x := by simp [cellsR]
theorem cellsR_at {sz : Nat} (h : ∀ x, (enc x).length = sz) : ∀ (l : List α) (i j : Nat) (x : α) (u : Value), l[i]? = some x → (enc x)[j]? = some u → (cellsR enc l)[i * sz + j]? = some u
  | [], i, j, x, u, hi, _ => by simp at hi
  | y :: r, 0, j, x, u, hi, hu => by
    simp at hi
    subst hi
    have hj : j < (enc y).length := (List.getElem?_eq_some_iff.1 hu).1
    simp only [cellsR, List.flatMap_cons, Nat.zero_mul, Nat.zero_add]
    rw [List.getElem?_append_left hj]
    exact hu
  | y :: r, i + 1, j, x, u, hi, hu => by
    have ih := cellsR_at h r i j x u (by simpa using hi) hu
    have e : (i + 1) * sz + j = (enc y).length + (i * sz + j) := by rw [h, Nat.add_mul]; omega
    simp only [cellsR, List.flatMap_cons] at ih ⊢
    rw [e, List.getElem?_append_right (by omega), Nat.add_sub_cancel_left]
    exact ih
/-- what a row's type must be -/
structure RT (P : Program) (t e : TypeId) (sz : Nat) (enc : α → List Value) : Prop where
  ht : P.underlying t = some (.slice e)
  info : ∃ z bytes, (P.info? e).map (fun i => (i.zero, i.size, i.bytes)) = some (some z, sz, bytes) ∧ z.cells.size = sz ∧ bytes ≤ 1000
  len : ∀ x, (enc x).length = sz
  one : ∀ x, ∀ u ∈ enc x, u.oneCell' = true
  pos : 0 < sz
/-- a row of the call's own -/
structure ROwn (e : TypeId) (sz : Nat) (enc : α → List Value) (B : Nat) (w : World) (v : Value) (l : List α) : Prop where
  own : w.ownsRow B e sz v l.length (cellsR enc l)
  base : B ≤ w.heap.size
/-- the slice value v holds the elements l -/
def RowL (sz : Nat) (enc : α → List Value) (w : World) (v : Value) (l : List α) : Prop :=
  ∃ A c, v = .slice A l.length c ∧ (l = [] ∨ ∃ b o, A = some ⟨b, o, none⟩ ∧ b < w.heap.size ∧ ∀ i x j u, l[i]? = some x → (enc x)[j]? = some u → w.cell? ⟨b, o + i * sz + j, none⟩ = some u)
variable {e : TypeId} {sz B : Nat} {w w' : World} {v : Value} {l : List α}
theorem ROwn.nil (hB : B ≤ w.heap.size) : ROwn e sz enc B w (.slice none 0 0) [] := ⟨World.ownsRow_nil _ _ _ _, hB⟩
theorem ROwn.more (h : ROwn e sz enc B w v l) (hb : Below w.heap.size w w') : ROwn e sz enc B w' v l := ⟨own_more h.own hb, Nat.le_trans h.base hb.size⟩
theorem ROwn.alloc (h : ROwn e sz enc B w v l) (o : Obj) : ROwn e sz enc B (w.alloc o) v l := h.more (bel_alloc w o)
theorem RowL.more (h : RowL sz enc w v l) (hb : Below w.heap.size w w') : RowL sz enc w' v l := by
  obtain ⟨A, c, rfl, h⟩ := h
  refine ⟨A, c, rfl, ?_⟩
  rcases h with h | ⟨b, o, rfl, hlt, hc⟩
  · exact .inl h
  · exact .inr ⟨b, o, rfl, Nat.lt_of_lt_of_le hlt hb.size, fun i x j u hi hu => (hb.cell (p := ⟨b, o + i * sz + j, none⟩) hlt).trans (hc i x j u hi hu)⟩
theorem ROwn.rowL (h : ROwn e sz enc B w v l) (hlen : ∀ x, (enc x).length = sz) : RowL sz enc w v l := by
  cases l with
  | nil =>
    rcases h.own.2 with ⟨rfl, _⟩ | ⟨g, cap, cur, rfl, _⟩
    · exact ⟨none, 0, rfl, .inl rfl⟩
    · exact ⟨_, cap, rfl, .inl rfl⟩
  | cons x r =>
    obtain ⟨g, cap, rfl, _, hlt⟩ := h.own.form (by simp)
    have hadd : ∀ j, (⟨g, 0, none⟩ : Addr).add j = ⟨g, 0 + j, none⟩ := fun j => by unfold Addr.add; split <;> simp_all
    refine ⟨_, cap, rfl, .inr ⟨g, 0, rfl, hlt, fun i y j u hi hu => ?_⟩⟩
    have h0 := h.own.cells (g := g) rfl _ _ (cellsR_at hlen _ i j y u hi hu)
    rw [hadd] at h0
    rw [Nat.add_assoc]
    exact h0
/-- an element of a row -/
theorem RowL.at (h : RowL sz enc w v l) {A : Option Addr} {n c : Nat} (hv : v = .slice A n c) {k : Nat} (hk : k < l.length) : ∃ b o, A = some ⟨b, o, none⟩ ∧ b < w.heap.size ∧ ∀ j u, (enc l[k])[j]? = some u → w.cell? ⟨b, o + k * sz + j, none⟩ = some u := by
  obtain ⟨A', c', rfl, h⟩ := h
  simp only [Value.slice.injEq] at hv
  obtain ⟨rfl, rfl, rfl⟩ := hv
  rcases h with h | ⟨b, o, rfl, hlt, hc⟩
  · rw [h] at hk; simp at hk
  · exact ⟨b, o, rfl, hlt, fun j u hu => hc k _ j u (List.getElem?_eq_getElem hk) hu⟩
/-- a row literal -/
theorem RowL.new (w : World) (l : List α) (e : TypeId) (hlen : ∀ x, (enc x).length = sz) {cs : Array Value} (hcs : cs = (cellsR enc l).toArray) (c : Nat) : RowL sz enc (w.alloc (.cells cs e)) (.slice (some ⟨w.heap.size, 0, none⟩) l.length c) l := by
  subst hcs
  refine ⟨_, c, rfl, .inr ⟨w.heap.size, 0, rfl, by simp, fun i x j u hi hu => ?_⟩⟩
  rw [cells_new, List.getElem?_toArray, Nat.zero_add]
  exact cellsR_at hlen l i j x u hi hu
theorem ROwn.new (h : B ≤ w.heap.size) (l : List α) (hlen : ∀ x, (enc x).length = sz) {cs : Array Value} (hcs : cs = (cellsR enc l).toArray) (hm : l.length ≤ 1000000) : ROwn e sz enc B (w.alloc (.cells cs e)) (.slice (some ⟨w.heap.size, 0, none⟩) l.length l.length) l := by
  subst hcs
  refine ⟨⟨cellsR_len hlen l, .inr ⟨w.heap.size, l.length, (cellsR enc l).toArray, rfl, h, heap_alloc_new w _, Nat.le_refl _, by unfold maxLen; omega, by simp [cellsR_len hlen], ?_⟩⟩, by simp; omega⟩
  rw [List.take_of_length_le (by simp [cellsR_len hlen])]

/-- what a step has changed: of the blocks that were there, v's own alone; and v' lies there, or in a new one -/
structure Chg (w w' : World) (v v' : Value) : Prop where
  but : But w w' (fun k => v.ownBlock = some k)
  own : ∀ g, v'.ownBlock = some g → v.ownBlock = some g ∨ w.heap.size ≤ g
theorem Chg.refl (w : World) (v : Value) : Chg w w v v := ⟨But.refl _ _, fun g h => .inl h⟩
theorem Chg.of_below {w w' : World} {v : Value} (h : Below w.heap.size w w') : Chg w w' v v := ⟨But.of_below h, fun g h => .inl h⟩
theorem Chg.trans {w w1 w2 : World} {v v1 v2 : Value} (h : Chg w w1 v v1) (h' : Chg w1 w2 v1 v2) : Chg w w2 v v2 where
  but := h.but.trans h'.but (fun k hk hv => by
    rcases h.own k hv with h1 | h1
    · exact h1
    · omega)
  own g hg := by
    rcases h'.own g hg with h1 | h1
    · exact h.own g h1
    · exact .inr (Nat.le_trans h.but.size h1)
theorem ROwn.low (h : ROwn e sz enc B w v l) {k : Nat} (hk : v.ownBlock = some k) : B ≤ k ∧ k < w.heap.size := h.own.lt k hk
theorem Chg.below {v' : Value} (h : Chg w w' v v') (hF : ROwn e sz enc B w v l) : Below B w w' :=
  h.but.below hF.base (fun k hk hv => by have := (hF.low hv).1; omega)
theorem Chg.cell {w w' : World} {v v' : Value} (h : Chg w w' v v') {a : Addr} {x : Value} (hc : w.cell? a = some x) (hne : v.ownBlock ≠ some a.block) : w'.cell? a = some x :=
  (World.cell?_of_block (h.but.block a.block (World.block_lt_of_cell? _ _ hc) hne)).trans hc
theorem ROwn.app {P : Program} {t : TypeId} (T : RT P t e sz enc) {g cap' : Nat} {W w1 : World} {m : List α} (h : ROwn e sz enc B w v l) (hW : Below w.heap.size w W) {n : Nat} (hn : n = l.length + m.length)
    (hown : w1.ownsRow B e sz (.slice (some ⟨g, 0, none⟩) n cap') n (cellsR enc l ++ cellsR enc m)) (hgrow : W.grownBy w1 v.ownBlock) (hloc : v.ownBlock = some g ∨ g = W.heap.size) :
    ROwn e sz enc B w1 (.slice (some ⟨g, 0, none⟩) n cap') (l ++ m) ∧ Chg w w1 v (.slice (some ⟨g, 0, none⟩) n cap') := by
  have hs := hW.size
  refine ⟨⟨by rw [cellsR_app, List.length_append, ← hn]; exact hown, Nat.le_trans h.base (Nat.le_trans hs hgrow.size)⟩, ⟨⟨hgrow.os.trans hW.os, hgrow.tape.trans hW.tape, hgrow.output.trans hW.output, Nat.le_trans hs hgrow.size, fun k hk hn => (hgrow.block k (Nat.lt_of_lt_of_le hk hs) (fun e => hn e.symm)).trans (hW.block k hk)⟩, fun k hk => ?_⟩⟩
  have e : k = g := by
    have : (Value.slice (some ⟨g, 0, none⟩) n cap').ownBlock = some g := rfl
    rw [this] at hk
    exact (Option.some.inj hk).symm
  subst e
  rcases hloc with h1 | h1
  · exact .inl h1
  · exact .inr (by omega)
section
variable {P : Program} {t : TypeId}
/-- 'append(v, x)' in a plain region; w0: the world in which the row stood, before x was laid beside it -/
theorem wpList_rapp (T : RT P t e sz enc) {w0 : World} {ops : Array Oper} {rest : List Oper} {o : Oper} {a : Act} {Q : Exit → Act → World → Prop} (hgd : o.guard = none) (s x : Operand)
    (ho : o.op = .call { callee := .builtin .append, args := #[s, x], argTypes := #[t, t] }) (h0 : ROwn e sz enc B w0 v l) (hs : a.eval s = v) (hW : Below w0.heap.size w0 w)
    (b : Nat) (new : α) (c : Nat) (hx : a.eval x = .slice (some ⟨b, 0, none⟩) 1 c) {cs : Array Value} (hcs : cs = (enc new).toArray) (hb : w.heap[b]? = some (.cells cs e (0, 0)))
    (hlim : l.length ≤ 100000000)
    (h : ∀ v' w', ROwn e sz enc B w' v' (l ++ [new]) → Chg w0 w' v v' → wpList P ops Q rest (a.put o.dst v') w') : wpList P ops Q (o :: rest) a w := by
  obtain ⟨z, bytes, hinfo, hzc, hby⟩ := T.info
  obtain ⟨i, hi, hz, hz1, hz2⟩ := info_parts hinfo
  subst hcs
  refine wpList_append_lies w hgd s x t ho B e i z sz bytes T.ht hi hz hz1 hz2 hzc T.pos v l.length (cellsR enc l) hs (h0.more hW).own ⟨b, 0, none⟩ 1 c (cellsR enc [new]) hx
    (by rw [cellsR_one, T.len]; omega) (by rw [cellsR_one]; exact World.news_of_block hb) (by rw [cellsR_one]; exact T.one new) (by omega) (by unfold maxLen; omega) ?_ (h0.more hW).base w.heap.size rfl ?_
  · have : (l.length + 1) * bytes ≤ (l.length + 1) * 1000 := Nat.mul_le_mul_left _ hby
    omega
  · intro g cap w' hown hgrow hloc _
    obtain ⟨r1, r2⟩ := h0.app T hW (m := [new]) rfl hown hgrow hloc
    exact h _ _ r1 r2
/-- the same at a step of a region that draws its order -/
theorem step_rapp (T : RT P t e sz enc) {w0 : World} {ops : Array Oper} {o : Oper} {a : Act} {K : Act → World → Prop} {Q : Exit → Act → World → Prop} {E : Prop} (hgd : o.guard = none) (s x : Operand)
    (ho : o.op = .call { callee := .builtin .append, args := #[s, x], argTypes := #[t, t] }) (h0 : ROwn e sz enc B w0 v l) (hs : a.eval s = v) (hW : Below w0.heap.size w0 w)
    (b : Nat) (new : α) (c : Nat) (hx : a.eval x = .slice (some ⟨b, 0, none⟩) 1 c) {cs : Array Value} (hcs : cs = (enc new).toArray) (hb : w.heap[b]? = some (.cells cs e (0, 0)))
    (hlim : l.length ≤ 100000000)
    (h : ∀ v' w', ROwn e sz enc B w' v' (l ++ [new]) → Chg w0 w' v v' → K (a.put o.dst v') w') : if Region.wanted o (yielded ops a.tmps) = true then Oper.wp P o a w K Q else E := by
  obtain ⟨z, bytes, hinfo, hzc, hby⟩ := T.info
  obtain ⟨i, hi, hz, hz1, hz2⟩ := info_parts hinfo
  subst hcs
  refine step_append_lies w hgd s x t ho B e i z sz bytes T.ht hi hz hz1 hz2 hzc T.pos v l.length (cellsR enc l) hs (h0.more hW).own ⟨b, 0, none⟩ 1 c (cellsR enc [new]) hx
    (by rw [cellsR_one, T.len]; omega) (by rw [cellsR_one]; exact World.news_of_block hb) (by rw [cellsR_one]; exact T.one new) (by omega) (by unfold maxLen; omega) ?_ (h0.more hW).base w.heap.size rfl ?_
  · have : (l.length + 1) * bytes ≤ (l.length + 1) * 1000 := Nat.mul_le_mul_left _ hby
    omega
  · intro g cap w' hown hgrow hloc _
    obtain ⟨r1, r2⟩ := h0.app T hW (m := [new]) rfl hown hgrow hloc
    exact h _ _ r1 r2
theorem news_of_row {w : World} {b o : Nat} {m : List α} (hlen : ∀ x, (enc x).length = sz) (hpos : 0 < sz) (hc : ∀ i x j u, m[i]? = some x → (enc x)[j]? = some u → w.cell? ⟨b, o + i * sz + j, none⟩ = some u) :
    ∀ j u, (cellsR enc m)[j]? = some u → w.cell? ((⟨b, o, none⟩ : Addr).add j) = some u := by
  intro j u hu
  have hadd : (⟨b, o, none⟩ : Addr).add j = ⟨b, o + j, none⟩ := by unfold Addr.add; split <;> simp_all
  rw [hadd]
  have hj : j < (cellsR enc m).length := (List.getElem?_eq_some_iff.1 hu).1
  rw [cellsR_len hlen] at hj
  have hi : j / sz < m.length := Nat.div_lt_of_lt_mul (by rw [Nat.mul_comm]; exact hj)
  have hm : j % sz < sz := Nat.mod_lt _ hpos
  have hd : (j / sz) * sz + j % sz = j := by rw [Nat.mul_comm]; exact Nat.div_add_mod j sz
  have hg := cellsR_at hlen m (j / sz) (j % sz) m[j / sz] ((enc m[j / sz])[j % sz]'(by rw [hlen]; exact hm)) (List.getElem?_eq_getElem hi) (List.getElem?_eq_getElem _)
  rw [hd, hu] at hg
  have := hc (j / sz) m[j / sz] (j % sz) _ (List.getElem?_eq_getElem hi) (List.getElem?_eq_getElem (by rw [hlen]; exact hm))
  rw [Nat.add_assoc, hd] at this
  rw [this, hg]
/-- 'append(v, x...)' at the operation, x not empty -/
theorem wpList_rapps (T : RT P t e sz enc) {ops : Array Oper} {rest : List Oper} {o : Oper} {a : Act} {Q : Exit → Act → World → Prop} (hgd : o.guard = none) (s x : Operand)
    (ho : o.op = .call { callee := .builtin .append, args := #[s, x], argTypes := #[t, t] }) (h0 : ROwn e sz enc B w v l) (hs : a.eval s = v)
    (b off : Nat) (m : List α) (n c : Nat) (hx : a.eval x = .slice (some ⟨b, off, none⟩) n c) (hn : n = m.length) (hm : 0 < n) (hc : ∀ i x j u, m[i]? = some x → (enc x)[j]? = some u → w.cell? ⟨b, off + i * sz + j, none⟩ = some u)
    (hlim : l.length + m.length ≤ 100000000)
    (h : ∀ v' w', ROwn e sz enc B w' v' (l ++ m) → Chg w w' v v' → wpList P ops Q rest (a.put o.dst v') w') : wpList P ops Q (o :: rest) a w := by
  obtain ⟨z, bytes, hinfo, hzc, hby⟩ := T.info
  obtain ⟨i, hi, hz, hz1, hz2⟩ := info_parts hinfo
  refine wpList_append_lies w hgd s x t ho B e i z sz bytes T.ht hi hz hz1 hz2 hzc T.pos v l.length (cellsR enc l) hs h0.own ⟨b, off, none⟩ n c (cellsR enc m) hx
    (by rw [cellsR_len T.len, hn]) (news_of_row T.len T.pos hc) ?_ hm (by unfold maxLen; omega) ?_ h0.base w.heap.size rfl ?_
  · intro u hu
    obtain ⟨y, _, hy⟩ := List.mem_flatMap.1 hu
    exact T.one y u hy
  · have : (l.length + n) * bytes ≤ (l.length + n) * 1000 := Nat.mul_le_mul_left _ hby
    omega
  · intro g cap w' hown hgrow hloc _
    obtain ⟨r1, r2⟩ := h0.app T (Below.refl _ _) (m := m) (by rw [hn]) hown hgrow hloc
    exact h _ _ r1 r2
theorem step_rapps (T : RT P t e sz enc) {ops : Array Oper} {o : Oper} {a : Act} {K : Act → World → Prop} {Q : Exit → Act → World → Prop} {E : Prop} (hgd : o.guard = none) (s x : Operand)
    (ho : o.op = .call { callee := .builtin .append, args := #[s, x], argTypes := #[t, t] }) (h0 : ROwn e sz enc B w v l) (hs : a.eval s = v)
    (b off : Nat) (m : List α) (n c : Nat) (hx : a.eval x = .slice (some ⟨b, off, none⟩) n c) (hn : n = m.length) (hm : 0 < n) (hc : ∀ i x j u, m[i]? = some x → (enc x)[j]? = some u → w.cell? ⟨b, off + i * sz + j, none⟩ = some u)
    (hlim : l.length + m.length ≤ 100000000)
    (h : ∀ v' w', ROwn e sz enc B w' v' (l ++ m) → Chg w w' v v' → K (a.put o.dst v') w') : if Region.wanted o (yielded ops a.tmps) = true then Oper.wp P o a w K Q else E := by
  obtain ⟨z, bytes, hinfo, hzc, hby⟩ := T.info
  obtain ⟨i, hi, hz, hz1, hz2⟩ := info_parts hinfo
  refine step_append_lies w hgd s x t ho B e i z sz bytes T.ht hi hz hz1 hz2 hzc T.pos v l.length (cellsR enc l) hs h0.own ⟨b, off, none⟩ n c (cellsR enc m) hx
    (by rw [cellsR_len T.len, hn]) (news_of_row T.len T.pos hc) ?_ hm (by unfold maxLen; omega) ?_ h0.base w.heap.size rfl ?_
  · intro u hu
    obtain ⟨y, _, hy⟩ := List.mem_flatMap.1 hu
    exact T.one y u hy
  · have : (l.length + n) * bytes ≤ (l.length + n) * 1000 := Nat.mul_le_mul_left _ hby
    omega
  · intro g cap w' hown hgrow hloc _
    obtain ⟨r1, r2⟩ := h0.app T (Below.refl _ _) (m := m) (by rw [hn]) hown hgrow hloc
    exact h _ _ r1 r2
end
end
end Go.Proofs.YtldillnjnjkkgaaGreatDoor

/- 'append(v, x...)' for rows of a call's own, whatever x holds. -/
namespace Go.Proofs.YtldillnjnjkkgaaGreatDoor
open Go.RowKit Go.Shelf
set_option linter.unusedSimpArgs false
set_option linter.unusedVariables false

section
variable {α : Type} {enc : α → List Value} {e : TypeId} {sz B : Nat} {w w' : World} {v : Value} {l : List α} {P : Program} {t : TypeId}
theorem run_app0 (T : RT P t e sz enc) (ty : TypeId) (h : ROwn e sz enc B w v l) (A : Option Addr) (c : Nat) : (Builtin.append_ #[t, t] ty #[v, .slice A 0 c]).run P w = .ok v w := by
  obtain ⟨z, bytes, hinfo, hzc, hby⟩ := T.info
  obtain ⟨i, hi, hz, hz1, hz2⟩ := info_parts hinfo
  have ht := T.ht
  rcases h.own.2 with ⟨rfl, h1⟩ | ⟨g, cap, cur, rfl, _, _, hnc, _⟩
  · cases A <;> simp [Builtin.append_, run_underlying ht, sizeOf, typeInfo, hi, Builtin.lenOf, Builtin.firstCells, h1, loadCells, loadCellsFrom]
  · cases A <;> simp [Builtin.append_, run_underlying ht, sizeOf, typeInfo, hi, Builtin.lenOf, Builtin.firstCells, hnc, storeCells, loadCells, loadCellsFrom]
theorem wp_rappl (T : RT P t e sz enc) {o : Oper} {a : Act} {K : Act → World → Prop} {Q : Exit → Act → World → Prop} (s x : Operand)
    (ho : o.op = .call { callee := .builtin .append, args := #[s, x], argTypes := #[t, t] }) (h0 : ROwn e sz enc B w v l) (hs : a.eval s = v) (m : List α) (u : Value) (hx : a.eval x = u) (hm : RowL sz enc w u m)
    (hlim : l.length + m.length ≤ 100000000)
    (h : ∀ v' w', ROwn e sz enc B w' v' (l ++ m) → Chg w w' v v' → K (a.put o.dst v') w') : o.wp P a w K Q := by
  obtain ⟨A, c, rfl, hm⟩ := hm
  rcases hm with rfl | ⟨b, off, rfl, hlt, hc⟩
  · have hr := run_app0 T o.type h0 A c
    have hx : a.eval x = .slice A 0 c := hx
    unfold Oper.wp execOp
    simp only [ho, resolve, invoke, builtin, Sem.run_bind, Sem.run_pure, Result.andThen_ok, List.map_toArray, List.map_cons, List.map_nil, hs, hx, hr]
    exact h v w (by rw [List.append_nil]; exact h0) (Chg.refl _ _)
  · rcases Nat.eq_zero_or_pos m.length with h1 | h1
    · have : m = [] := List.eq_nil_of_length_eq_zero h1
      subst this
      have hr := run_app0 T o.type h0 (some ⟨b, off, none⟩) c
      have hx : a.eval x = .slice (some ⟨b, off, none⟩) 0 c := hx
      unfold Oper.wp execOp
      simp only [ho, resolve, invoke, builtin, Sem.run_bind, Sem.run_pure, Result.andThen_ok, List.map_toArray, List.map_cons, List.map_nil, hs, hx, hr]
      exact h v w (by rw [List.append_nil]; exact h0) (Chg.refl _ _)
    · obtain ⟨z, bytes, hinfo, hzc, hby⟩ := T.info
      obtain ⟨i, hi, hz, hz1, hz2⟩ := info_parts hinfo
      refine wp_append_lies w s x t ho B e i z sz bytes T.ht hi hz hz1 hz2 hzc T.pos v l.length (cellsR enc l) hs h0.own ⟨b, off, none⟩ m.length c (cellsR enc m) hx
        (by rw [cellsR_len T.len]) (news_of_row T.len T.pos hc) ?_ h1 (by unfold maxLen; omega) ?_ h0.base w.heap.size rfl ?_
      · intro u hu
        obtain ⟨y, _, hy⟩ := List.mem_flatMap.1 hu
        exact T.one y u hy
      · have : (l.length + m.length) * bytes ≤ (l.length + m.length) * 1000 := Nat.mul_le_mul_left _ hby
        omega
      · intro g cap w' hown hgrow hloc _
        obtain ⟨r1, r2⟩ := h0.app T (Below.refl _ _) (m := m) rfl hown hgrow hloc
        exact h _ _ r1 r2
theorem wpList_rappl (T : RT P t e sz enc) {ops : Array Oper} {rest : List Oper} {o : Oper} {a : Act} {Q : Exit → Act → World → Prop} (hgd : o.guard = none) (s x : Operand)
    (ho : o.op = .call { callee := .builtin .append, args := #[s, x], argTypes := #[t, t] }) (h0 : ROwn e sz enc B w v l) (hs : a.eval s = v) (m : List α) (u : Value) (hx : a.eval x = u) (hm : RowL sz enc w u m)
    (hlim : l.length + m.length ≤ 100000000)
    (h : ∀ v' w', ROwn e sz enc B w' v' (l ++ m) → Chg w w' v v' → wpList P ops Q rest (a.put o.dst v') w') : wpList P ops Q (o :: rest) a w :=
  wpList_plain hgd fun _ hK => wp_rappl T s x ho h0 hs m u hx hm hlim fun v' w' h1 h2 => hK _ _ (h v' w' h1 h2)
end
end Go.Proofs.YtldillnjnjkkgaaGreatDoor

/- Walks of hasCodes and, where there is nothing to report, of report. -/
namespace Go.Proofs.YtldillnjnjkkgaaGreatDoor
open Go.RowKit Go.Shelf
set_option linter.unusedSimpArgs false
set_option linter.unusedVariables false

theorem airp_any (s : ByteArray) (w : World) (hs : s.size ≤ maxLen) : Calls Tryz.prog 127 #[.string s] w fun e w' => e = .returned (.bool (capsB s 3)) ∧ w = w' := by
  go_enter Tryz.func127, Tryz.ntmps127
  go_wp2_with (go_at_call 188; refine (capitals_any _ _ _ hs).mono ?_; rintro e w' ⟨rfl, rfl⟩)
  go_ret
  exact ⟨rfl, rfl⟩
def codesB (a : Air) : Bool := capsB a.code 3 && capsB a.city 3 && capsB a.land 2
end Go.Proofs.YtldillnjnjkkgaaGreatDoor

/- Plain facts on lists of violations, and on those of places. -/
namespace Go.Proofs.YtldillnjnjkkgaaGreatDoor
open Go.RowKit Go.Shelf
set_option linter.unusedSimpArgs false
set_option linter.unusedVariables false

/-- a violation: its error, and where it is -/
abbrev Flt := Int × ByteArray
/-- the errors that are none are left out -/
def okE (es : List Int) : List Int := es.filter fun e => decide (e ≠ 0)
def pick (s : ByteArray) (es : List Int) : List Flt := (okE es).map fun e => (e, s)
theorem pick_app (s : ByteArray) (a b : List Int) : pick s (a ++ b) = pick s a ++ pick s b := by simp [pick, okE]
theorem pick_zero (s : ByteArray) : pick s [0] = [] := rfl
theorem pick_one (s : ByteArray) (e : Int) (h : e ≠ 0) : pick s [e] = [(e, s)] := by simp [pick, okE, h]
theorem pick_le (s : ByteArray) (es : List Int) : (pick s es).length ≤ es.length := by
  unfold pick okE
  rw [List.length_map]
  exact List.length_filter_le _ _

/-! ### the violations of places -/
/-- 'airport ' ¦ 'distance ' with an index behind it -/
def airW : ByteArray := ⟨#[97, 105, 114, 112, 111, 114, 116, 32]⟩
def dstW : ByteArray := ⟨#[100, 105, 115, 116, 97, 110, 99, 101, 32]⟩
def decA (i : Nat) : ByteArray := ⟨(Lib.itoa (i : Int)).toArray⟩
def movB (L : List Air) (a : Air) : Bool := L.any fun b => decide (b.city = a.city) && !decide (b.land = a.land)
def airE (L : List Air) (a : Air) : List Int :=
  [if codesB a then 0 else 5, if L.any (fun b => decide (b.code = a.code)) then 6 else 0, if movB L a then 8 else 0, errZ a.off a.shs]
/-- the violations of the first k airports -/
def airF (l : List Air) (k : Nat) : List Flt := (List.range k).flatMap fun i => match l[i]? with
  | some a => pick (airW ++ decA i) (airE (l.take i) a)
  | none => []
theorem airF_succ (l : List Air) (k : Nat) (a : Air) (h : l[k]? = some a) : airF l (k + 1) = airF l k ++ pick (airW ++ decA k) (airE (l.take k) a) := by
  simp [airF, List.range_succ, h]
theorem airF_le (l : List Air) : ∀ k, (airF l k).length ≤ 4 * k
  | 0 => by simp [airF]
  | k + 1 => by
    have ih := airF_le l k
    have e : airF l (k + 1) = airF l k ++ (match l[k]? with | some a => pick (airW ++ decA k) (airE (l.take k) a) | none => []) := by simp [airF, List.range_succ]
    rw [e, List.length_append]
    cases l[k]? with
    | none => simp; omega
    | some a =>
      have := pick_le (airW ++ decA k) (airE (l.take k) a)
      simp only [airE, List.length_cons, List.length_nil] at this ⊢
      omega
def twB (L : List Dst) (d : Dst) : Bool := L.any fun x => (decide (x.f = d.f) && decide (x.t = d.t)) || (decide (x.f = d.t) && decide (x.t = d.f))
def dstE (l : List Air) (L : List Dst) (d : Dst) : List Int :=
  [if l.any (fun b => decide (b.city = d.f)) && l.any (fun b => decide (b.city = d.t)) then 0 else 14, if twB L d then 6 else 0, if useB d && !decide (d.f = d.t) then 0 else 2]
def dstF (l : List Air) (ds : List Dst) (k : Nat) : List Flt := (List.range k).flatMap fun i => match ds[i]? with
  | some d => pick (dstW ++ decA i) (dstE l (ds.take i) d)
  | none => []
theorem dstF_zero (l : List Air) (ds : List Dst) : dstF l ds 0 = [] := rfl
theorem dstF_succ (l : List Air) (ds : List Dst) (k : Nat) (d : Dst) (h : ds[k]? = some d) : dstF l ds (k + 1) = dstF l ds k ++ pick (dstW ++ decA k) (dstE l (ds.take k) d) := by
  simp [dstF, List.range_succ, h]
theorem dstF_le (l : List Air) (ds : List Dst) : ∀ k, (dstF l ds k).length ≤ 3 * k
  | 0 => by simp [dstF]
  | k + 1 => by
    have ih := dstF_le l ds k
    have e : dstF l ds (k + 1) = dstF l ds k ++ (match ds[k]? with | some d => pick (dstW ++ decA k) (dstE l (ds.take k) d) | none => []) := by simp [dstF, List.range_succ]
    rw [e, List.length_append]
    cases ds[k]? with
    | none => simp; omega
    | some d =>
      have := pick_le (dstW ++ decA k) (dstE l (ds.take k) d)
      simp only [dstE, List.length_cons, List.length_nil] at this ⊢
      omega
/-- all violations of places -/
def chkP (p : PV) : List Flt := airF p.l p.l.length ++ dstF p.l p.ds p.ds.length

/-! ### the order of texts -/
theorem less_asym : ∀ x y : List UInt8, Op.bytesLess x y = true → Op.bytesLess y x = false
  | _, [], h => by simp [Op.bytesLess] at h
  | [], _ :: _, _ => rfl
  | a :: x, b :: y, h => by
    simp only [Op.bytesLess, Bool.or_eq_true, decide_eq_true_eq, Bool.and_eq_true, beq_iff_eq] at h
    have hlt : ∀ u v : UInt8, u < v ↔ u.toNat < v.toNat := fun u v => UInt8.lt_iff_toNat_lt
    rcases h with h | ⟨rfl, h⟩
    · have h1 : ¬ b < a := by rw [hlt] at h ⊢; omega
      have h2 : ¬ b = a := by rintro rfl; rw [hlt] at h; omega
      simp [Op.bytesLess, h1, h2]
    · have h1 : ¬ a < a := by rw [hlt]; omega
      simp [Op.bytesLess, h1, less_asym x y h]
theorem less_total : ∀ x y : List UInt8, Op.bytesLess x y = false → x ≠ y → Op.bytesLess y x = true
  | [], [], _, h => absurd rfl h
  | _ :: _, [], _, _ => rfl
  | [], _ :: _, h, _ => by simp [Op.bytesLess] at h
  | a :: x, b :: y, h, hne => by
    simp only [Op.bytesLess, Bool.or_eq_false_iff, decide_eq_false_iff_not, Bool.and_eq_false_iff] at h
    have hlt : ∀ u v : UInt8, u < v ↔ u.toNat < v.toNat := fun u v => UInt8.lt_iff_toNat_lt
    by_cases e : a = b
    · subst e
      have h1 : Op.bytesLess x y = false := by rcases h.2 with h | h; exact absurd h (by simp); exact h
      have := less_total x y h1 (fun e => hne (by rw [e]))
      simp [Op.bytesLess, this]
    · have h1 : b < a := by
        have h0 := h.1
        have h2 : a.toNat ≠ b.toNat := fun h => e (UInt8.toNat_inj.1 h)
        rw [hlt] at h0 ⊢
        omega
      simp [Op.bytesLess, h1]
theorem toList_ne {a b : ByteArray} (h : a ≠ b) : a.toList ≠ b.toList := fun e => h ((eqS_iff a b).1 (by unfold eqS; rw [e]; simp))
variable {P : Program}
end Go.Proofs.YtldillnjnjkkgaaGreatDoor

/- Walks of fault.When, fault.Add and of the law's SameFaults. -/
namespace Go.Proofs.YtldillnjnjkkgaaGreatDoor
open Go.RowKit Go.Shelf
set_option linter.unusedSimpArgs false
set_option linter.unusedVariables false

abbrev fltT : TypeId := 96
def encF (x : Flt) : List Value := [.int .i64 x.1, .string x.2]
theorem rtF : RT Tryz.prog 43 fltT 2 encF where
  ht := Tryz.underlying43
  info := ⟨.agg #[.int .i64 0, .string noB], 24, by kernel_rfl, rfl, by omega⟩
  len x := rfl
  one x u hu := by simp [encF] at hu; rcases hu with rfl | rfl <;> rfl
  pos := by omega
abbrev FOwn (B : Nat) (w : World) (v : Value) (l : List Flt) : Prop := ROwn fltT 2 encF B w v l
abbrev FltL (w : World) (v : Value) (l : List Flt) : Prop := RowL 2 encF w v l

theorem fwhen_any (b : Bool) (e : Int) (w : World) : Calls Tryz.prog 77 #[.bool b, .int .i64 e] w fun r w' => r = .returned (.int .i64 (if b then e else 0)) ∧ w = w' := by
  cases b <;>
  · go_enter Tryz.func77, Tryz.ntmps77
    go_wp2
    go_ret
    exact ⟨rfl, rfl⟩

theorem pick_take_succ (s : ByteArray) (es : List Int) (k : Nat) (h : k < es.length) : pick s (es.take (k + 1)) = pick s (es.take k) ++ pick s [es[k]] := by
  rw [← pick_app, ← List.take_append_getElem h]

set_option maxRecDepth 100000 in
set_option maxHeartbeats 4000000 in
theorem fadd_any (B : Nat) (v : Value) (l : List Flt) (s : ByteArray) (b n c : Nat) (es : List Int) (w : World) (hF : FOwn B w v l) (hn : es.length = n) (hn2 : n ≤ 10) (hz : ∀ k (h : k < es.length), w.cell? ⟨b, k, none⟩ = some (.int .i64 es[k])) (hne : v.ownBlock ≠ some b) (hl : l.length ≤ 1000000) :
    Calls Tryz.prog 76 #[v, .string s, .slice (some ⟨b, 0, none⟩) n c] w fun e w' => ∃ v', e = .returned v' ∧ FOwn B w' v' (l ++ pick s es) ∧ Chg w w' v v' := by
  have HZ := Lib.hid hz
  have HF := Lib.hid hF
  have HNE := Lib.hid hne
  clear hz hF hne
  go_enter Tryz.func76, Tryz.ntmps76
  go_wp2
  go_loopw [0, 11] (fun s0 vi wr => ∃ (k : Nat), k ≤ n ∧ vi = .int .i64 k ∧ Hid (FOwn B wr s0 (l ++ pick s (es.take k)) ∧ Chg w wr v s0)) (fun _ vi _ => n - (intOf vi).toNat)
  case atStart => exact ⟨0, Nat.zero_le _, rfl, Lib.hid ⟨by simpa [pick, okE] using HF.out, Chg.refl _ _⟩⟩
  case round =>
    obtain ⟨k, hk, rfl, HH⟩ := hrel
    by_cases hlt : k < n
    · have i1 : (k : Int) < (n : Int) := by omega
      have hke : k < es.length := by omega
      have z0 := HH.out.2.cell (HZ.out k hke) HNE.out
      have HP := Lib.hid (pick_take_succ s es k hke)
      by_cases he : es[k] = 0
      · rw [he] at z0
        have HP2 : Hid (pick s (es.take (k + 1)) = pick s (es.take k)) := Lib.hid (by rw [HP.out, he, pick_zero, List.append_nil])
        clear HP he
        go_wp2
        go_roundw
        case rel => exact ⟨k + 1, by omega, by go_num, Lib.hid (by rw [HP2.out]; exact HH.out)⟩
        case measure => simp [intOf]; omega
      · have hb : (es[k] != 0) = true := by simpa using he
        have HP2 : Hid (pick s (es.take (k + 1)) = pick s (es.take k) ++ [(es[k], s)]) := Lib.hid (by rw [HP.out, pick_one s _ he])
        generalize es[k] = x at *
        have hlen : (l ++ pick s (es.take k)).length ≤ 100000000 := by
          have := pick_le s (es.take k)
          have := List.length_take_le k es
          rw [List.length_append]
          omega
        clear HP he hke
        go_wp2_with (at_builtin; refine wpList_rapp rtF rfl _ _ rfl HH.out.1 rfl (bel_alloc _ _) _ (x, s) _ rfl (cs := #[.int .i64 x, .string s]) rfl (heap_alloc_new _ _) hlen ?_; intro v' w' hO hC)
        go_roundw
        case rel => exact ⟨k + 1, by omega, by go_num, Lib.hid ⟨by rw [HP2.out, ← List.append_assoc]; exact hO, HH.out.2.trans hC⟩⟩
        case measure => simp [intOf]; omega
    · have hkn : k = n := by omega
      have HE : Hid (es.take k = es) := Lib.hid (List.take_of_length_le (by omega))
      go_wp2
      go_ret
      exact ⟨_, rfl, by have := HH.out; rw [HE.out] at this; exact this⟩

end Go.Proofs.YtldillnjnjkkgaaGreatDoor

/- Walks of Country, Clone and Find. -/
namespace Go.Proofs.YtldillnjnjkkgaaGreatDoor
open Go.RowKit Go.Shelf
set_option linter.unusedSimpArgs false
set_option linter.unusedVariables false

theorem info_shift : (Tryz.prog.info? shiftT).map (fun i => (i.zero, i.size, i.bytes)) = some (some (.agg #[.int .i64 0, .int .i64 0]), 2, 16) := by kernel_rfl
def cellsH (l : Shs) : List Value := l.flatMap fun x => [.int .i64 x.1, .int .i64 x.2]
theorem cellsH_len (l : Shs) : (cellsH l).length = l.length * 2 := by
  induction l with
  | nil => rfl
  | cons x r ih => simp only [cellsH, List.flatMap_cons, List.length_append, List.length_cons, List.length_nil] at ih ⊢; omega
theorem cellsH_at : ∀ (l : Shs) (i : Nat) (h : i < l.length), (cellsH l)[i * 2]? = some (.int .i64 (shA l i)) ∧ (cellsH l)[i * 2 + 1]? = some (.int .i64 (shF l i))
  | [], i, h => by simp at h
  | x :: r, 0, h => by simp [cellsH, shA, shF]
  | x :: r, i + 1, h => by
    have ih := cellsH_at r i (by simpa using h)
    have e : cellsH (x :: r) = .int .i64 x.1 :: .int .i64 x.2 :: cellsH r := by simp [cellsH]
    have e2 : shA (x :: r) (i + 1) = shA r i := by simp [shA]
    have e3 : shF (x :: r) (i + 1) = shF r i := by simp [shF]
    rw [e, e2, e3, show (i + 1) * 2 = i * 2 + 1 + 1 by omega, show i * 2 + 1 + 1 + 1 = (i * 2 + 1) + 1 + 1 by omega]
    simp only [List.getElem?_cons_succ]
    exact ih
theorem ShL.of_own {B : Nat} {w : World} {g cap : Nat} {l : Shs} (h : w.ownsRow B shiftT 2 (.slice (some ⟨g, 0, none⟩) l.length cap) l.length (cellsH l)) (hg : g < w.heap.size) : ShL w (some ⟨g, 0, none⟩) l := by
  refine .inr ⟨g, 0, rfl, hg, fun i hi => ?_⟩
  have hc := cellsH_at l i hi
  have hadd : ∀ j, (⟨g, 0, none⟩ : Addr).add j = ⟨g, 0 + j, none⟩ := fun j => by unfold Addr.add; split <;> simp_all
  have a0 := h.cells (g := g) rfl _ _ hc.1
  have a1 := h.cells (g := g) rfl _ _ hc.2
  rw [hadd] at a0 a1
  exact ⟨a0, by rw [Nat.add_assoc]; exact a1⟩

theorem nil_yes (n c : Nat) (w : World) : (binOp .eql 89 (.slice none n c) (.slice none 0 0)).run Tryz.prog w = .ok (.bool true) w := by kernel_rfl
theorem nil_no (a : Addr) (n c : Nat) (w : World) : (binOp .eql 89 (.slice (some a) n c) (.slice none 0 0)).run Tryz.prog w = .ok (.bool false) w := by kernel_rfl
theorem ShL.news {w : World} {ad : Addr} {l : Shs} (h : ShL w (some ad) l) : ∀ j u, (cellsH l)[j]? = some u → w.cell? (ad.add j) = some u := by
  intro j u hu
  have hj : j < l.length * 2 := by rw [← cellsH_len]; exact (List.getElem?_eq_some_iff.1 hu).1
  rcases h with h | ⟨b, o, e, _, hc⟩
  · rw [h] at hj; simp at hj
  · cases e
    have hadd : ∀ j, (⟨b, o, none⟩ : Addr).add j = ⟨b, o + j, none⟩ := fun j => by unfold Addr.add; split <;> simp_all
    rw [hadd]
    obtain ⟨m, hm⟩ : ∃ m, j = m * 2 ∨ j = m * 2 + 1 := ⟨j / 2, by omega⟩
    rcases hm with rfl | rfl
    · rw [(cellsH_at l m (by omega)).1] at hu
      cases hu
      exact (hc m (by omega)).1
    · rw [(cellsH_at l m (by omega)).2] at hu
      cases hu
      have := (hc m (by omega)).2
      rw [Nat.add_assoc] at this
      exact this
theorem cellsH_one (l : Shs) : ∀ u ∈ cellsH l, u.oneCell' = true := by
  intro u hu
  simp only [cellsH, List.mem_flatMap] at hu
  obtain ⟨x, _, hx⟩ := hu
  simp at hx
  rcases hx with rfl | rfl <;> rfl

set_option maxRecDepth 100000 in
set_option maxHeartbeats 2000000 in
theorem clone_any (A : Option Addr) (c : Nat) (l : Shs) (w : World) (hl : l.length ≤ 300) (hL : ShL w A l) :
    Calls Tryz.prog 226 #[.slice A l.length c] w fun e w' => ∃ A' c', e = .returned (.slice A' l.length c') ∧ ShL w' A' l ∧ Below w.heap.size w w' ∧ (A' = none ∨ ∃ g, A' = some ⟨g, 0, none⟩ ∧ w.heap.size ≤ g) := by
  obtain ⟨i, hi, hz, hz1, hz2⟩ := info_parts info_shift
  cases A with
  | none =>
    have h0 : l = [] := by
      rcases hL with h | ⟨b, o, h, _⟩
      · exact h
      · cases h
    subst h0
    have n1 := nil_yes 0 c w
    go_enter Tryz.func226, Tryz.ntmps226
    go_wp2
    go_ret
    exact ⟨none, 0, rfl, .inl rfl, Below.refl _ _, .inl rfl⟩
  | some ad =>
    have n1 := nil_no ad l.length c w
    have hb0 := bel_alloc w (.cells #[] shiftT)
    by_cases h0 : l = []
    · subst h0
      have n1 := nil_no ad 0 c w
      go_enter Tryz.func226, Tryz.ntmps226
      go_wp2
      go_ret
      exact ⟨some ⟨w.heap.size, 0, none⟩, 0, rfl, .inl rfl, hb0, .inr ⟨_, rfl, Nat.le_refl _⟩⟩
    · have hlp : 0 < l.length := List.length_pos_iff.2 h0
      have HN := Lib.hid ((hL.more hb0).news)
      have HC := Lib.hid (cellsH_len l)
      have HO := Lib.hid (World.ownsRow_made (base := w.heap.size) (e := shiftT) (size := 2) w #[] 0 (Nat.le_refl _) (by unfold maxLen; omega) rfl)
      have hsz : w.heap.size ≤ (w.alloc (.cells #[] shiftT)).heap.size := hb0.size
      clear h0 hL
      go_enter Tryz.func226, Tryz.ntmps226
      go_wp2_with (refine wpList_append_lies _ rfl _ _ 89 rfl w.heap.size shiftT i (.agg #[.int .i64 0, .int .i64 0]) 2 16 Tryz.underlying89 hi hz hz1 hz2 rfl (by omega) _ 0 [] rfl HO.out ad l.length c (cellsH l) rfl HC.out HN.out (cellsH_one l) hlp (by unfold maxLen; omega) (by omega) hsz _ rfl ?_; intro g cap w' hown hgrow _ hgl)
      go_ret
      have e : 0 + l.length = l.length := Nat.zero_add _
      rw [e, List.nil_append] at hown
      exact ⟨some ⟨g, 0, none⟩, cap, by simp, ShL.of_own hown hgl, hb0.grown hgrow hb0.size (fun k hk => by cases hk; exact Nat.le_refl _), .inr ⟨g, rfl, (hown.lt g rfl).1⟩⟩

end Go.Proofs.YtldillnjnjkkgaaGreatDoor

/- Walks of the queue's Pop and Push. -/
namespace Go.Proofs.YtldillnjnjkkgaaGreatDoor
open Go.RowKit Go.Shelf
set_option linter.unusedSimpArgs false
set_option linter.unusedVariables false

end Go.Proofs.YtldillnjnjkkgaaGreatDoor

/- Walks of container/heap over the queue. -/
namespace Go.Proofs.YtldillnjnjkkgaaGreatDoor
open Go.RowKit Go.Shelf
set_option linter.unusedSimpArgs false
set_option linter.unusedVariables false

end Go.Proofs.YtldillnjnjkkgaaGreatDoor

/- Walks of container/heap: up. -/
namespace Go.Proofs.YtldillnjnjkkgaaGreatDoor
open Go.RowKit Go.Shelf
set_option linter.unusedSimpArgs false
set_option linter.unusedVariables false

end Go.Proofs.YtldillnjnjkkgaaGreatDoor

/- Walks of container/heap: down, Push, Pop. -/
namespace Go.Proofs.YtldillnjnjkkgaaGreatDoor
open Go.RowKit Go.Shelf
set_option linter.unusedSimpArgs false
set_option linter.unusedVariables false

end Go.Proofs.YtldillnjnjkkgaaGreatDoor

/- Walks of container/heap: Push, Pop. -/
namespace Go.Proofs.YtldillnjnjkkgaaGreatDoor
open Go.RowKit Go.Shelf
set_option linter.unusedSimpArgs false
set_option linter.unusedVariables false

theorem But.weak {w w' : World} {X Y : Nat → Prop} (h : But w w' X) (hx : ∀ k, X k → Y k) : But w w' Y := ⟨h.os, h.tape, h.output, h.size, fun k hk hn => h.block k hk fun hy => hn (hx k hy)⟩
end Go.Proofs.YtldillnjnjkkgaaGreatDoor

/- Walk of Find. -/
namespace Go.Proofs.YtldillnjnjkkgaaGreatDoor
open Go.RowKit Go.Shelf
set_option linter.unusedSimpArgs false
set_option linter.unusedVariables false

theorem frozen_more {w w' : World} {b j : Nat} (hb : Below w.heap.size w w') (hlt : b < w.heap.size) (h : w.frozen? ⟨b, j, none⟩ = false) : w'.frozen? ⟨b, j, none⟩ = false := (World.frozen?_of_block (a := ⟨b, j, none⟩) (hb.block b hlt)).trans h
theorem ShL.but {w w' : World} {X : Nat → Prop} {A : Option Addr} {l : Shs} (h : ShL w A l) (hb : But w w' X) (hA : A = none ∨ ∃ g, A = some ⟨g, 0, none⟩ ∧ ¬ X g) : ShL w' A l := by
  rcases h with h | ⟨b, o, rfl, hlt, hc⟩
  · exact .inl h
  · have hx : ¬ X b := by
      rcases hA with h | ⟨g, e, hx⟩
      · cases h
      · cases e; exact hx
    exact .inr ⟨b, o, rfl, Nat.lt_of_lt_of_le hlt hb.size, fun i hi => ⟨(World.cell?_of_block (a := ⟨b, o + i * 2, none⟩) (hb.block b hlt hx)).trans (hc i hi).1, (World.cell?_of_block (a := ⟨b, o + i * 2 + 1, none⟩) (hb.block b hlt hx)).trans (hc i hi).2⟩⟩

/-- five stores into a block of an airport -/
def S5 (w : World) (N : Nat) (v0 v1 v2 v3 v4 : Value) : World := ((((w.setCell ⟨N, 0, none⟩ v0).setCell ⟨N, 1, none⟩ v1).setCell ⟨N, 2, none⟩ v2).setCell ⟨N, 3, none⟩ v3).setCell ⟨N, 4, none⟩ v4
theorem S5.heap {w : World} {N : Nat} {a0 a1 a2 a3 a4 : Value} (h : w.heap[N]? = some (.cells #[a0, a1, a2, a3, a4] airT (0, 0))) (v0 v1 v2 v3 v4 : Value) : (S5 w N v0 v1 v2 v3 v4).heap[N]? = some (.cells #[v0, v1, v2, v3, v4] airT (0, 0)) := by
  have e1 := heap_setCell_same w N 0 _ airT v0 h
  have e2 := heap_setCell_same _ N 1 _ airT v1 e1
  have e3 := heap_setCell_same _ N 2 _ airT v2 e2
  have e4 := heap_setCell_same _ N 3 _ airT v3 e3
  have e5 := heap_setCell_same _ N 4 _ airT v4 e4
  exact e5
theorem S5.but (w : World) (N : Nat) (v0 v1 v2 v3 v4 : Value) : But w (S5 w N v0 v1 v2 v3 v4) (fun k => k = N) :=
  ((((But.setCell w N 0 v0).trans (But.setCell _ N 1 v1) (fun _ _ h => h)).trans (But.setCell _ N 2 v2) (fun _ _ h => h)).trans (But.setCell _ N 3 v3) (fun _ _ h => h)).trans (But.setCell _ N 4 v4) (fun _ _ h => h)
def FindR (o : Option Air) (e : Ending) (w' : World) : Prop := match o with
  | none => e = .returned (.tuple #[encA airZ, .bool false])
  | some a => ∃ A' c', e = .returned (.tuple #[encA { a with A := A', c := c' }, .bool true]) ∧ ShL w' A' a.shs

set_option maxRecDepth 100000 in
set_option maxHeartbeats 4000000 in
theorem find_any (p : PV) (s : ByteArray) (w : World) (hl : p.l.length ≤ 40) (hL : AirL w p.A p.l) (hs : ∀ a ∈ p.l, a.shs.length ≤ 300) :
    Calls Tryz.prog 175 #[encP p, .string s] w fun e w' => Below w.heap.size w w' ∧ FindR (findC p.l s) e w' := by
  obtain ⟨A, ca, l, D, cd, ds⟩ := p
  dsimp only at *
  have hb1 := bel_alloc w (.cells #[.slice A l.length ca, .slice D ds.length cd] placesT)
  have hb0 : Below w.heap.size w ((w.alloc (.cells #[.slice A l.length ca, .slice D ds.length cd] placesT)).alloc (.cells #[.string noB, .string noB, .string noB, .int .i64 0, .slice none 0 0] airT)) := hb1.alloc hb1.size _
  have hb2 := bel_alloc (w.alloc (.cells #[.slice A l.length ca, .slice D ds.length cd] placesT)) (.cells #[.string noB, .string noB, .string noB, .int .i64 0, .slice none 0 0] airT)
  have p0 := bel_cell hb2 ((cells_new w #[.slice A l.length ca, .slice D ds.length cd] placesT 0).trans rfl)
  have p1 := bel_cell hb2 ((cells_new w #[.slice A l.length ca, .slice D ds.length cd] placesT 1).trans rfl)
  have hN := heap_alloc_new (w.alloc (.cells #[.slice A l.length ca, .slice D ds.length cd] placesT)) (.cells #[.string noB, .string noB, .string noB, .int .i64 0, .slice none 0 0] airT)
  simp only [World.size_alloc] at hN
  have hL5 := hL.more hb0
  go_enter Tryz.func175, Tryz.ntmps175
  generalize hw5 : (w.alloc (.cells #[.slice A l.length ca, .slice D ds.length cd] placesT)).alloc (.cells #[.string noB, .string noB, .string noB, .int .i64 0, .slice none 0 0] airT) = w5 at *
  have f0 : ∀ W, SW w5 W → W.cell? ⟨w.heap.size, 0, none⟩ = some (.slice A l.length ca) := bel_get p0
  have f1 : ∀ W, SW w5 W → W.cell? ⟨w.heap.size, 1, none⟩ = some (.slice D ds.length cd) := bel_get p1
  have hS : SW w5 w5 := Below.refl _ _
  have CC := Lib.hid (SW.call (w5 := w5) (fun W h => byCode_any ⟨A, ca, l, D, cd, ds⟩ s W hl (hL5.more h)))
  have hNl : w.heap.size + 1 < w5.heap.size := (Array.getElem?_eq_some_iff.1 hN).1
  have n0 : ∀ W, SW w5 W → W.cell? ⟨w.heap.size + 1, 0, none⟩ = some (.string noB) := bel_get ((cell_of_row w5 _ 0 _ _ (0, 0) hN).trans rfl)
  have n1 : ∀ W, SW w5 W → W.cell? ⟨w.heap.size + 1, 1, none⟩ = some (.string noB) := bel_get ((cell_of_row w5 _ 1 _ _ (0, 0) hN).trans rfl)
  have n2 : ∀ W, SW w5 W → W.cell? ⟨w.heap.size + 1, 2, none⟩ = some (.string noB) := bel_get ((cell_of_row w5 _ 2 _ _ (0, 0) hN).trans rfl)
  have n3 : ∀ W, SW w5 W → W.cell? ⟨w.heap.size + 1, 3, none⟩ = some (.int .i64 0) := bel_get ((cell_of_row w5 _ 3 _ _ (0, 0) hN).trans rfl)
  have n4 : ∀ W, SW w5 W → W.cell? ⟨w.heap.size + 1, 4, none⟩ = some (.slice none 0 0) := bel_get ((cell_of_row w5 _ 4 _ _ (0, 0) hN).trans rfl)
  have fz : ∀ j W, SW w5 W → W.frozen? ⟨w.heap.size + 1, j, none⟩ = false := fun j W hW => frozen_more hW hNl (frozen_of_row w5 _ j _ _ hN)
  rcases idxA_find (fun a => eqS a.code s) l with ⟨h1, h2⟩ | ⟨k, a, h1, h2, h3, h4⟩
  · rw [h1] at CC
    have HR : Hid (findC l s = none) := Lib.hid h2
    clear h1 h2 hL hL5 p0 p1
    go_wp2_with (go_at_call 225; with_reducible refine (CC.out _ hS).mono ?_; rintro e w1 ⟨rfl, hS⟩; have x0 := f0 _ hS; have x1 := f1 _ hS; have y0 := n0 _ hS; have y1 := n1 _ hS; have y2 := n2 _ hS; have y3 := n3 _ hS; have y4 := n4 _ hS; have z0 := fz 0 _ hS; have z1 := fz 1 _ hS; have z2 := fz 2 _ hS; have z3 := fz 3 _ hS; have z4 := fz 4 _ hS)
    have hN1 := (hS.block _ hNl).trans hN
    have hx := S5.heap hN1 (.string noB) (.string noB) (.string noB) (.int .i64 0) (.slice none 0 0)
    have hbt := S5.but w1 (w.heap.size + 1) (.string noB) (.string noB) (.string noB) (.int .i64 0) (.slice none 0 0)
    have c0 := (cell_of_row _ _ 0 _ _ (0, 0) hx).trans rfl
    have c1 := (cell_of_row _ _ 1 _ _ (0, 0) hx).trans rfl
    have c2 := (cell_of_row _ _ 2 _ _ (0, 0) hx).trans rfl
    have c3 := (cell_of_row _ _ 3 _ _ (0, 0) hx).trans rfl
    have c4 := (cell_of_row _ _ 4 _ _ (0, 0) hx).trans rfl
    have hbw : Below w.heap.size w (S5 w1 (w.heap.size + 1) (.string noB) (.string noB) (.string noB) (.int .i64 0) (.slice none 0 0)) := (hb0.trans (Below.mono hS hb0.size)).trans (hbt.below (Nat.le_trans hb0.size hS.size) (fun k hk => by omega))
    refine bodyPost_ret (v := .tuple #[encA airZ, .bool false]) ?_ rfl ⟨hbw, by rw [HR.out]; exact rfl⟩
    change (results _ _).run Tryz.prog (S5 w1 (w.heap.size + 1) (.string noB) (.string noB) (.string noB) (.int .i64 0) (.slice none 0 0)) = .ok _ (S5 w1 (w.heap.size + 1) (.string noB) (.string noB) (.string noB) (.int .i64 0) (.slice none 0 0))
    generalize S5 w1 (w.heap.size + 1) (.string noB) (.string noB) (.string noB) (.int .i64 0) (.slice none 0 0) = W at c0 c1 c2 c3 c4 ⊢
    simp [results, Tryz.results175, go_sem, c0, c1, c2, c3, c4, airZ]
  · rw [h1] at CC
    have HR : Hid (findC l s = some a) := Lib.hid h3
    have i1 : (0 : Int) ≤ (k : Int) := by omega
    have i2 : (k : Int) < (l.length : Int) := by omega
    obtain ⟨b, o, a', rfl, hgl, hka, ha⟩ := hL5.at h4
    rw [h2] at hka
    obtain rfl := Option.some.inj hka
    have hlen := hs a (List.mem_of_getElem? h2)
    obtain ⟨a0, a1, a2, a3, a4, ash⟩ := ha
    have g0 := bel_get a0
    have g1 := bel_get a1
    have g2 := bel_get a2
    have g3 := bel_get a3
    have g4 := bel_get a4
    have HSH : Hid (∀ W, SW w5 W → ShL W a.A a.shs) := Lib.hid (fun W hW => ash.more hW)
    have KC := Lib.hid (fun W (h : ShL W a.A a.shs) => clone_any a.A a.c a.shs W hlen h)
    clear hL hL5 h1 h2 h3 a0 a1 a2 a3 a4 ash p0 p1
    go_wp2_with (first
      | (go_at_call 225; with_reducible refine (CC.out _ hS).mono ?_; rintro e w1 ⟨rfl, hS⟩; have x0 := f0 _ hS; have x1 := f1 _ hS; have y0 := g0 _ hS; have y1 := g1 _ hS; have y2 := g2 _ hS; have y3 := g3 _ hS; have y4 := g4 _ hS)
      | (go_at_call 226; refine (KC.out _ ((HSH.out _ hS).more (bel_alloc _ _))).mono ?_; rintro e w7 ⟨A', c', rfl, hsh7, hb7, hA7⟩; refine Hid.out ?_))
    have hbM := bel_alloc w1 (.cells #[.string a.code, .string a.city, .string a.land, .int .i64 a.off, .slice a.A a.shs.length a.c] airT)
    have hM := heap_alloc_new w1 (.cells #[.string a.code, .string a.city, .string a.land, .int .i64 a.off, .slice a.A a.shs.length a.c] airT)
    have hMl : w1.heap.size < (w1.alloc (.cells #[.string a.code, .string a.city, .string a.land, .int .i64 a.off, .slice a.A a.shs.length a.c] airT)).heap.size := by simp
    have hM7 := (hb7.block _ hMl).trans hM
    have hNM : w.heap.size + 1 ≠ w1.heap.size := by have := hS.size; omega
    have hN7 := ((hb7.block _ (Nat.lt_of_lt_of_le (Nat.lt_of_lt_of_le hNl hS.size) hbM.size)).trans (hbM.block _ (Nat.lt_of_lt_of_le hNl hS.size))).trans ((hS.block _ hNl).trans hN)
    have hb8 := But.setCell w7 w1.heap.size 4 (.slice A' a.shs.length c')
    have hM8 := heap_setCell_same w7 w1.heap.size 4 _ airT (.slice A' a.shs.length c') hM7
    have hN8 := (hb8.block (w.heap.size + 1) (Array.getElem?_eq_some_iff.1 hN7).1 hNM).trans hN7
    have hMl7 : w1.heap.size < w7.heap.size := (Array.getElem?_eq_some_iff.1 hM7).1
    have m4 := (cell_of_row w7 _ 4 _ _ (0, 0) hM7).trans rfl
    have mz := frozen_of_row w7 _ 4 _ _ hM7
    have u0 := (cell_of_row _ _ 0 _ _ (0, 0) hM8).trans (show _ = some _ from rfl)
    have u1 := (cell_of_row _ _ 1 _ _ (0, 0) hM8).trans (show _ = some _ from rfl)
    have u2 := (cell_of_row _ _ 2 _ _ (0, 0) hM8).trans (show _ = some _ from rfl)
    have u3 := (cell_of_row _ _ 3 _ _ (0, 0) hM8).trans (show _ = some _ from rfl)
    have u4 := (cell_of_row _ _ 4 _ _ (0, 0) hM8).trans (show _ = some _ from rfl)
    have v0 := (cell_of_row _ _ 0 _ _ (0, 0) hN8).trans (show _ = some _ from rfl)
    have t0 := frozen_of_row _ _ 0 _ _ hN8
    have v1 := (cell_of_row _ _ 1 _ _ (0, 0) hN8).trans (show _ = some _ from rfl)
    have t1 := frozen_of_row _ _ 1 _ _ hN8
    have v2 := (cell_of_row _ _ 2 _ _ (0, 0) hN8).trans (show _ = some _ from rfl)
    have t2 := frozen_of_row _ _ 2 _ _ hN8
    have v3 := (cell_of_row _ _ 3 _ _ (0, 0) hN8).trans (show _ = some _ from rfl)
    have t3 := frozen_of_row _ _ 3 _ _ hN8
    have v4 := (cell_of_row _ _ 4 _ _ (0, 0) hN8).trans (show _ = some _ from rfl)
    have t4 := frozen_of_row _ _ 4 _ _ hN8
    have hx := S5.heap hN8 (.string a.code) (.string a.city) (.string a.land) (.int .i64 a.off) (.slice A' a.shs.length c')
    have hbt := S5.but (w7.setCell ⟨w1.heap.size, 4, none⟩ (.slice A' a.shs.length c')) (w.heap.size + 1) (.string a.code) (.string a.city) (.string a.land) (.int .i64 a.off) (.slice A' a.shs.length c')
    have hbx : Below w.heap.size w w7 := (hb0.trans (Below.mono hS hb0.size)).trans ((hbM.trans (Below.mono hb7 hbM.size)).mono (Nat.le_trans hb0.size hS.size))
    have hall := (hb8.weak (Y := fun k => k = w1.heap.size ∨ k = w.heap.size + 1) (fun _ h => .inl h)).trans hbt (fun _ _ h => .inr h)
    have c0 := (cell_of_row _ _ 0 _ _ (0, 0) hx).trans (show _ = some _ from rfl)
    have c1 := (cell_of_row _ _ 1 _ _ (0, 0) hx).trans (show _ = some _ from rfl)
    have c2 := (cell_of_row _ _ 2 _ _ (0, 0) hx).trans (show _ = some _ from rfl)
    have c3 := (cell_of_row _ _ 3 _ _ (0, 0) hx).trans (show _ = some _ from rfl)
    have c4 := (cell_of_row _ _ 4 _ _ (0, 0) hx).trans (show _ = some _ from rfl)
    have hs1 := hS.size
    have hbw : Below w.heap.size w (S5 (w7.setCell ⟨w1.heap.size, 4, none⟩ (.slice A' a.shs.length c')) (w.heap.size + 1) (.string a.code) (.string a.city) (.string a.land) (.int .i64 a.off) (.slice A' a.shs.length c')) := hbx.trans (hall.below hbx.size (fun k hk => by have := hb0.size; omega))
    have hshx : ShL (S5 (w7.setCell ⟨w1.heap.size, 4, none⟩ (.slice A' a.shs.length c')) (w.heap.size + 1) (.string a.code) (.string a.city) (.string a.land) (.int .i64 a.off) (.slice A' a.shs.length c')) A' a.shs := hsh7.but hall (by
      rcases hA7 with h | ⟨g, h, hg⟩
      · exact .inl h
      · exact .inr ⟨g, h, by simp only [World.size_alloc] at hg; omega⟩)
    clear hsh7 hA7 hall hbx hb8
    refine Lib.hid ?_
    go_wp2
    refine bodyPost_ret (v := .tuple #[encA { a with A := A', c := c' }, .bool true]) ?_ rfl ⟨hbw, by rw [HR.out]; exact ⟨A', c', rfl, hshx⟩⟩
    change (results _ _).run Tryz.prog (S5 (w7.setCell ⟨w1.heap.size, 4, none⟩ (.slice A' a.shs.length c')) (w.heap.size + 1) (.string a.code) (.string a.city) (.string a.land) (.int .i64 a.off) (.slice A' a.shs.length c')) = .ok _ (S5 (w7.setCell ⟨w1.heap.size, 4, none⟩ (.slice A' a.shs.length c')) (w.heap.size + 1) (.string a.code) (.string a.city) (.string a.land) (.int .i64 a.off) (.slice A' a.shs.length c'))
    generalize S5 (w7.setCell ⟨w1.heap.size, 4, none⟩ (.slice A' a.shs.length c')) (w.heap.size + 1) (.string a.code) (.string a.city) (.string a.land) (.int .i64 a.off) (.slice A' a.shs.length c') = W at c0 c1 c2 c3 c4 ⊢
    simp [results, Tryz.results175, go_sem, c0, c1, c2, c3, c4]

end Go.Proofs.YtldillnjnjkkgaaGreatDoor

/- Words for flights; walks of flight's leaves. -/
namespace Go.Proofs.YtldillnjnjkkgaaGreatDoor
open Go.RowKit Go.Shelf
set_option linter.unusedSimpArgs false
set_option linter.unusedVariables false

/-- a leg -/
structure Lg where
  f : ByteArray
  t : ByteArray
  dep : Int
  arr : Int
  eq : ByteArray
abbrev legT : TypeId := 88
abbrev fliT : TypeId := 26
def encLg (x : Lg) : List Value := [.string x.f, .string x.t, .int .i64 x.dep, .int .i64 x.arr, .string x.eq]
abbrev encG (x : Lg) : Value := .agg #[.string x.f, .string x.t, .int .i64 x.dep, .int .i64 x.arr, .string x.eq]
abbrev LegL (w : World) (v : Value) (l : List Lg) : Prop := RowL 5 encLg w v l
/-- a flight by value -/
structure FV where
  car : ByteArray
  num : Int
  pf : Int
  pt : Int
  pd : Int
  A : Option Addr
  c : Nat
  lg : List Lg
abbrev encFl (f : FV) : Value := .agg #[.string f.car, .int .i64 f.num, .int .i64 f.pf, .int .i64 f.pt, .int .i64 f.pd, .slice f.A f.lg.length f.c]
structure OkG (x : Lg) : Prop where
  f : x.f.size ≤ maxLen
  t : x.t.size ≤ maxLen
  eq : x.eq.size ≤ maxLen
  dep : -9223372036854775808 ≤ x.dep ∧ x.dep ≤ 9223372036854775807
  arr : -9223372036854775808 ≤ x.arr ∧ x.arr ≤ 9223372036854775807
theorem LegL.get {w : World} {A : Option Addr} {n c : Nat} {l : List Lg} (h : LegL w (.slice A n c) l) {k : Nat} (hk : k < l.length) : ∃ b o x, A = some ⟨b, o, none⟩ ∧ b < w.heap.size ∧ l[k]? = some x ∧
    w.cell? ⟨b, o + k * 5, none⟩ = some (.string x.f) ∧ w.cell? ⟨b, o + k * 5 + 1, none⟩ = some (.string x.t) ∧ w.cell? ⟨b, o + k * 5 + 2, none⟩ = some (.int .i64 x.dep) ∧ w.cell? ⟨b, o + k * 5 + 3, none⟩ = some (.int .i64 x.arr) ∧ w.cell? ⟨b, o + k * 5 + 4, none⟩ = some (.string x.eq) := by
  obtain ⟨b, o, h1, h2, h3⟩ := h.at rfl hk
  exact ⟨b, o, l[k], h1, h2, List.getElem?_eq_getElem hk, h3 0 _ rfl, h3 1 _ rfl, h3 2 _ rfl, h3 3 _ rfl, h3 4 _ rfl⟩

def numB (n : Int) : Bool := decide (1 ≤ n) && decide (n ≤ 9999)
def cntB (n : Nat) : Bool := decide (1 ≤ n) && decide (n ≤ 6)
def minB (n : Int) : Bool := decide (-1440 ≤ n) && decide (n ≤ 5759)
theorem isNumber7_any (n : Int) (w : World) : Calls Tryz.prog 120 #[.int .i64 n] w fun e w' => e = .returned (.bool (numB n)) ∧ w = w' := by
  have HU : Hid (numB n = (decide (1 ≤ n) && decide (n ≤ 9999))) := Lib.hid rfl
  by_cases h1 : 1 ≤ n
  all_goals
    go_enter Tryz.func120, Tryz.ntmps120
    go_wp2
    go_ret
    exact ⟨ret_bool (by rw [HU.out]; first | (simp [h1]; done) | (simp [h1]; omega)), rfl⟩
theorem isMinute_any (n : Int) (w : World) : Calls Tryz.prog 125 #[.int .i64 n] w fun e w' => e = .returned (.bool (minB n)) ∧ w = w' := by
  have HU : Hid (minB n = (decide (-1440 ≤ n) && decide (n ≤ 5759))) := Lib.hid rfl
  by_cases h1 : -1440 ≤ n
  all_goals
    go_enter Tryz.func125, Tryz.ntmps125
    go_wp2
    go_ret
    exact ⟨ret_bool (by rw [HU.out]; first | (simp [h1]; done) | (simp [h1]; omega)), rfl⟩
theorem isLegCount_any (n : Nat) (w : World) : Calls Tryz.prog 121 #[.int .i64 (n : Int)] w fun e w' => e = .returned (.bool (cntB n)) ∧ w = w' := by
  have HU : Hid (cntB n = (decide (1 ≤ (n : Int)) && decide ((n : Int) ≤ 6))) := Lib.hid (by
    unfold cntB
    congr 1
    · exact decide_eq_decide.2 (by omega)
    · exact decide_eq_decide.2 (by omega))
  by_cases h1 : 1 ≤ (n : Int)
  all_goals
    go_enter Tryz.func121, Tryz.ntmps121
    go_wp2
    go_ret
    exact ⟨ret_bool (by rw [HU.out]; first | (simp [h1]; done) | (simp [h1]; omega)), rfl⟩
theorem isEquip_any (s : ByteArray) (w : World) (hs : s.size ≤ maxLen) : Calls Tryz.prog 122 #[.string s] w fun e w' => e = .returned (.bool (codeB s 3 3)) ∧ w = w' := by
  have HC := Lib.hid (fun w => code_any s 3 3 w hs)
  go_enter Tryz.func122, Tryz.ntmps122
  go_wp2_with (go_at_call 180; refine (HC.out _).mono ?_; rintro e w' ⟨rfl, rfl⟩)
  go_ret
  exact ⟨rfl, rfl⟩

set_option maxRecDepth 100000 in
set_option maxHeartbeats 2000000 in
theorem isAirport_any (p : PV) (s : ByteArray) (w : World) (hl : p.l.length ≤ 40) (hL : AirL w p.A p.l) (hs : ∀ a ∈ p.l, a.shs.length ≤ 300) :
    Calls Tryz.prog 123 #[encP p, .string s] w fun e w' => e = .returned (.bool (findC p.l s).isSome) ∧ Below w.heap.size w w' := by
  have hb0 := bel_alloc w (.cells #[.slice p.A p.l.length p.ca, .slice p.D p.ds.length p.cd] placesT)
  have p0 := (cells_new w #[.slice p.A p.l.length p.ca, .slice p.D p.ds.length p.cd] placesT 0).trans (show _ = some _ from rfl)
  have p1 := (cells_new w #[.slice p.A p.l.length p.ca, .slice p.D p.ds.length p.cd] placesT 1).trans (show _ = some _ from rfl)
  have KF := Lib.hid (find_any p s _ hl (hL.more hb0) hs)
  cases hf : findC p.l s with
  | none =>
    rw [hf] at KF
    simp only [FindR, encA, airZ, List.length_nil] at KF
    clear hf
    go_enter Tryz.func123, Tryz.ntmps123
    go_wp2_with (go_at_call 175; refine KF.out.mono ?_; rintro e w1 ⟨hb1, rfl⟩)
    go_ret
    exact ⟨rfl, hb0.trans ((Below.mono hb1 hb0.size).trans ((bel_alloc _ _).mono (Nat.le_trans hb0.size hb1.size)))⟩
  | some a =>
    rw [hf] at KF
    simp only [FindR, encA] at KF
    clear hf
    go_enter Tryz.func123, Tryz.ntmps123
    go_wp2_with (go_at_call 175; refine KF.out.mono ?_; rintro e w1 ⟨hb1, A', c', rfl, _⟩)
    go_ret
    exact ⟨rfl, hb0.trans ((Below.mono hb1 hb0.size).trans ((bel_alloc _ _).mono (Nat.le_trans hb0.size hb1.size)))⟩

set_option maxHeartbeats 4000000 in
set_option maxRecDepth 100000 in
theorem indexL_any (g : Nat) (cb : Array Value) (A : Option Addr) (c : Nat) (l : List Lg) (p : Lg → Bool) (w : World) (eg : ∀ args w, (callFunc g args).run Tryz.prog w = .ok (.enter g args) w) (hl : l.length ≤ 1000) (hL : LegL w (.slice A l.length c) l)
    (hf : ∀ (a : Lg) (W : World), a ∈ l → Below w.heap.size w W → Calls Tryz.prog g (#[encG a] ++ cb) W fun e w' => e = .returned (.bool (p a)) ∧ Below W.heap.size W w') :
    Calls Tryz.prog 231 #[.slice A l.length c, .func (.func g) #[] cb] w fun e w' => ∃ r : Int, e = .returned (.int .i64 r) ∧ (l.any p = true → ∃ k : Nat, r = (k : Int)) ∧ (l.any p = false → r = -1) ∧ Below w.heap.size w w' := by
  have HF := Lib.hid hf
  clear hf
  go_enter Tryz.func231, Tryz.ntmps231
  go_wp2
  go_loopw [8] (fun vi wr => ∃ k : Nat, k ≤ l.length ∧ vi = .int .i64 k ∧ Hid ((l.take k).any p = false) ∧ Below w.heap.size w wr) (fun vi _ => l.length - (intOf vi).toNat)
  case atStart => exact ⟨0, Nat.zero_le _, rfl, Lib.hid rfl, Below.refl _ _⟩
  case round =>
    obtain ⟨k, hk, rfl, HK, hb⟩ := hrel
    by_cases hlt : k < l.length
    · obtain ⟨b, off, a, rfl, hgl, hka, z0, z1, z2, z3, z4⟩ := LegL.get (hL.more hb) hlt
      have i2 : (k : Int) < (l.length : Int) := by omega
      have hc := HF.out a wr (List.mem_of_getElem? hka) hb
      have HT : Hid ((l.take (k + 1)).any p = p a) := Lib.hid (by rw [List.take_add_one, hka, List.any_append, HK.out]; simp)
      cases hp : p a <;> rw [hp] at hc HT
      · clear hp hka
        go_wp2_with (refine hc.mono ?_; rintro e w' ⟨rfl, hb'⟩)
        go_roundw
        case rel => exact ⟨k + 1, by omega, by go_num, HT, hb.trans (hb'.mono hb.size)⟩
        case measure => simp [intOf]; omega
      · have HR : Hid (l.any p = true) := Lib.hid (List.any_eq_true.2 ⟨a, List.mem_of_getElem? hka, hp⟩)
        clear hp hka
        go_wp2_with (refine hc.mono ?_; rintro e w' ⟨rfl, hb'⟩)
        go_ret
        exact ⟨_, rfl, fun _ => ⟨k, rfl⟩, fun h => (by rw [HR.out] at h; cases h), hb.trans (hb'.mono hb.size)⟩
    · have HR : Hid (l.any p = false) := Lib.hid (by have h := HK.out; rwa [List.take_of_length_le (by omega)] at h)
      go_wp2
      go_ret
      exact ⟨-1, rfl, fun h => (by rw [HR.out] at h; cases h), fun _ => rfl, hb⟩
set_option maxHeartbeats 1000000 in
theorem containsL_any (g : Nat) (cb : Array Value) (A : Option Addr) (c : Nat) (l : List Lg) (p : Lg → Bool) (w : World) (eg : ∀ args w, (callFunc g args).run Tryz.prog w = .ok (.enter g args) w) (hl : l.length ≤ 1000) (hL : LegL w (.slice A l.length c) l)
    (hf : ∀ (a : Lg) (W : World), a ∈ l → Below w.heap.size w W → Calls Tryz.prog g (#[encG a] ++ cb) W fun e w' => e = .returned (.bool (p a)) ∧ Below W.heap.size W w') :
    Calls Tryz.prog 185 #[.slice A l.length c, .func (.func g) #[] cb] w fun e w' => e = .returned (.bool (l.any p)) ∧ Below w.heap.size w w' := by
  have HI := Lib.hid (indexL_any g cb A c l p w eg hl hL hf)
  clear hf
  cases ha : l.any p
  · rw [ha] at HI
    clear ha
    go_enter Tryz.func185, Tryz.ntmps185
    go_wp2_with (go_at_call 231; refine HI.out.mono ?_; rintro e w' ⟨r, rfl, _, hr, hb⟩; obtain rfl := hr rfl)
    go_ret
    exact ⟨rfl, hb⟩
  · rw [ha] at HI
    clear ha
    go_enter Tryz.func185, Tryz.ntmps185
    go_wp2_with (go_at_call 231; refine HI.out.mono ?_; rintro e w' ⟨r, rfl, hr, _, hb⟩; obtain ⟨k, rfl⟩ := hr rfl; have hk0 : (0 : Int) ≤ (k : Int) := by omega)
    go_ret
    exact ⟨rfl, hb⟩

end Go.Proofs.YtldillnjnjkkgaaGreatDoor
