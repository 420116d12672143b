/- Walk of checkAirports, whatever there is to report. -/
import Derived.Test.YtjokpfeiganigaaDoorFltA
import Derived.Test.YtjokpfeiganigaaDoorPlaN
import Derived.Test.YtjokpfeiganigaaDoorShelf
import Derived.Deep.RegionHeld3
import Derived.Deep.Onto
import Derived.Lib.ItoaLen
namespace Go.Proofs.YtjokpfeiganigaaDoor
open Go.RowKit Go.Shelf
set_option linter.unusedSimpArgs false
set_option linter.unusedVariables false

abbrev errT : TypeId := 41
theorem errs_new (w : World) (es : List Int) {cs : Array Value} (hcs : cs = (es.map (Value.int .i64)).toArray) : ∀ k (h : k < es.length), (w.alloc (.cells cs errT)).cell? ⟨w.heap.size, k, none⟩ = some (.int .i64 es[k]) := by
  intro k hk
  subst hcs
  rw [cells_new, List.getElem?_toArray, List.getElem?_map, List.getElem?_eq_getElem hk]
  rfl
theorem But.on {w w' w'' : World} {X : Nat → Prop} (h : But w w' X) (hb : Below w'.heap.size w' w'') : But w w'' X := h.trans (But.of_below (X := X) hb) (fun _ _ h => h)
/-- since w6 nothing has turned but v's own block -/
abbrev SX (w6 : World) (v : Value) (W : World) : Prop := But w6 W (fun k => v.ownBlock = some k)
theorem SX.cell {w6 W : World} {v : Value} {a : Addr} {x : Value} (hc : w6.cell? a = some x) (hne : v.ownBlock ≠ some a.block) (h : SX w6 v W) : W.cell? a = some x :=
  (World.cell?_of_block (h.block a.block (World.block_lt_of_cell? _ _ hc) hne)).trans hc
theorem SX.map {κ : Type} [DecidableEq κ] {P : Program} {k : TypeId} {en : κ → Value} {w6 W : World} {v : Value} {b n : Nat} {g : κ → Option Value} (hm : MapK P k en w6 b n g) (hne : v.ownBlock ≠ some b) (h : SX w6 v W) : MapK P k en W b n g := hm.same (h.block b hm.lt hne)
theorem ROwn.grown {α : Type} {enc : α → List Value} {e : TypeId} {sz B : Nat} {w w' : World} {v : Value} {l : List α} {row : Option Nat} (h : ROwn e sz enc B w v l) (hg : w.grownBy w' row) (hne : row ≠ v.ownBlock ∨ v.ownBlock = none) : ROwn e sz enc B w' v l :=
  ⟨h.own.kept hg (by
    rcases hne with h1 | h1
    · exact .inr (fun e => h1 e.symm)
    · exact .inl h1), Nat.le_trans h.base hg.size⟩
theorem itoa_nat (k : Nat) : Lib.itoa (k : Int) = Lib.decDigits k := by
  unfold Lib.itoa
  rw [if_neg (by omega)]
  simp
theorem decA_size (k : Nat) (h : k < 100) : (decA k).size ≤ 21 := by
  have := Lib.itoa_length_le (k : Int) (by omega) (by omega)
  show (Lib.itoa (k : Int)).toArray.size ≤ 21
  simpa using this
theorem dec_small (k : Nat) (h : k < 100) (w : World) : Calls Tryd.prog 52 #[.int .i64 (k : Int)] w fun e w' => e = .returned (.string (decA k)) ∧ w = w' := by
  have HC : Hid (∀ w, Calls Tryd.prog 81 #[.int .i64 (k : Int)] w fun e w' => e = .returned (.string (decA k)) ∧ w = w') := Lib.hid (fun w => by
    have h := Tryd.strconv_Itoa_small k h w
    rw [← itoa_nat] at h
    exact h.mono (by rintro e w' ⟨rfl, rfl⟩; exact ⟨rfl, rfl⟩))
  generalize decA k = s at *
  go_enter Tryd.func52, Tryd.ntmps52
  go_wp2_with (go_at_call 81; refine (HC.out _).mono ?_; rintro e w' ⟨rfl, rfl⟩)
  go_ret
  exact ⟨rfl, rfl⟩
def gC (L : List Air) (c : ByteArray) : Option Value := if L.any (fun b => decide (b.code = c)) then some (.bool true) else none
def gL (L : List Air) (c : ByteArray) : Option Value := (L.find? (fun b => decide (b.city = c))).map fun b => .string b.land
def gV (L : List Air) (c : ByteArray) : Option Value := if sevB L c then some (.bool true) else none
theorem gC_put (L : List Air) (a : Air) : (fun c' => if c' = a.code then some (Value.bool true) else gC L c') = gC (L ++ [a]) := by
  funext c
  unfold gC
  by_cases e : c = a.code
  · subst e; simp
  · have e' : ¬ a.code = c := fun h => e h.symm
    simp [e, e']
theorem gL_new (L : List Air) (a : Air) (h : L.find? (fun b => decide (b.city = a.city)) = none) : (fun c' => if c' = a.city then some (Value.string a.land) else gL L c') = gL (L ++ [a]) := by
  funext c
  unfold gL
  by_cases e : c = a.city
  · subst e; rw [List.find?_append, h]; simp
  · have e' : ¬ a.city = c := fun h => e h.symm
    rw [List.find?_append]; simp [e, e']
theorem gL_old (L : List Air) (a b : Air) (h : L.find? (fun b => decide (b.city = a.city)) = some b) : gL (L ++ [a]) = gL L := by
  funext c
  unfold gL
  by_cases e : c = a.city
  · subst e; rw [List.find?_append, h]; simp
  · have e' : ¬ a.city = c := fun h => e h.symm
    rw [List.find?_append]; simp [e']
theorem gV_put (L : List Air) (a : Air) (h : ∀ c, sevB (L ++ [a]) c = (decide (c = a.city) || sevB L c)) : (fun c' => if c' = a.city then some (Value.bool true) else gV L c') = gV (L ++ [a]) := by
  funext c
  unfold gV
  rw [h]
  by_cases e : c = a.city <;> simp [e]
theorem gC_get (L : List Air) (c : ByteArray) : (gC L c).getD (.bool false) = .bool (L.any fun b => decide (b.code = c)) := by
  unfold gC
  cases L.any fun b => decide (b.code = c) <;> rfl
theorem gV_get (L : List Air) (c : ByteArray) : (gV L c).getD (.bool false) = .bool (sevB L c) := by
  unfold gV
  cases sevB L c <;> rfl
theorem mov_sev (L : List Air) (a : Air) : movB L a = sevB (L ++ [a]) a.city := by
  cases h : L.find? (fun b => decide (b.city = a.city)) with
  | none =>
    obtain ⟨h1, h2⟩ := sev_new L a h
    rw [h1, h2]
    unfold sevB
    rw [h]
  | some f =>
    by_cases hl : f.land = a.land
    · obtain ⟨h1, h2⟩ := sev_same L a f h hl
      rw [h1, h2]
    · obtain ⟨h1, h2⟩ := sev_diff L a f h hl
      rw [h1, h2]; simp
theorem ShL.but' {w w' : World} {X : Nat → Prop} {A : Option Addr} {l : Shs} (h : ShL w A l) (hb : But w w' X) (hA : l = [] ∨ A = none ∨ ∃ g o, A = some ⟨g, o, none⟩ ∧ ¬ X g) : ShL w' A l := by
  rcases h with h | ⟨b, o, rfl, hlt, hc⟩
  · exact .inl h
  · rcases hA with h | h | ⟨g, o', e, hx⟩
    · exact .inl h
    · cases h
    · cases e
      exact .inr ⟨b, o, rfl, Nat.lt_of_lt_of_le hlt hb.size, fun i hi => ⟨(World.cell?_of_block (a := ⟨b, o + i * 2, none⟩) (hb.block b hlt hx)).trans (hc i hi).1, (World.cell?_of_block (a := ⟨b, o + i * 2 + 1, none⟩) (hb.block b hlt hx)).trans (hc i hi).2⟩⟩
theorem ShL.below {w w' : World} {lo : Nat} {A : Option Addr} {l : Shs} (h : ShL w A l) (hb : Below w.heap.size w w') : ShL w' A l := h.more hb

set_option maxRecDepth 100000 in
set_option maxHeartbeats 16000000 in
theorem airports_any (A : Option Addr) (c : Nat) (l : List Air) (w : World) (hl : l.length ≤ 40) (hL : AirL w A l) (hok : ∀ a ∈ l, OkA a) :
    Calls Tryd.prog 33 #[.slice A l.length c] w fun e w' => ∃ v', e = .returned v' ∧ FOwn w.heap.size w' v' (airF l l.length) ∧ Below w.heap.size w w' := by
  have hmm := @run_makeMap Tryd.prog
  have b1 := bel_alloc w (.map #[] 0)
  have b2 := bel_alloc (w.alloc (.map #[] 0)) (.map #[] 0)
  have b3 := bel_alloc ((w.alloc (.map #[] 0)).alloc (.map #[] 0)) (.map #[] 0)
  have m1 : MapS (((w.alloc (.map #[] 0)).alloc (.map #[] 0)).alloc (.map #[] 0)) w.heap.size 0 (gC (l.take 0)) := ((MapK.made w _ _ _).more b2).more b3
  have m2 : MapS (((w.alloc (.map #[] 0)).alloc (.map #[] 0)).alloc (.map #[] 0)) (w.heap.size + 1) 0 (gL (l.take 0)) := by
    have := (MapK.made (w.alloc (.map #[] 0)) Tryd.prog 9 Value.string).more b3
    rw [World.size_alloc] at this
    exact this
  have m3 : MapS (((w.alloc (.map #[] 0)).alloc (.map #[] 0)).alloc (.map #[] 0)) (w.heap.size + 1 + 1) 0 (gV (l.take 0)) := by
    have := MapK.made ((w.alloc (.map #[] 0)).alloc (.map #[] 0)) Tryd.prog 9 Value.string
    rw [World.size_alloc, World.size_alloc] at this
    exact this
  have hb0 : Below w.heap.size w (((w.alloc (.map #[] 0)).alloc (.map #[] 0)).alloc (.map #[] 0)) := (b1.alloc b1.size _).alloc (by simp; omega) _
  have hBs : w.heap.size + 1 + 1 + 1 ≤ (((w.alloc (.map #[] 0)).alloc (.map #[] 0)).alloc (.map #[] 0)).heap.size := by simp
  clear b1 b2 b3
  have HSH : Hid (∀ (k : Nat) (a : Air), l[k]? = some a → ShL w a.A a.shs) := Lib.hid (fun k a hk => by
    obtain ⟨bb', off', a', e, _, hka', ha'⟩ := hL.at (List.getElem?_eq_some_iff.1 hk).1
    rw [hk] at hka'
    cases hka'
    exact ha'.sh)
  go_enter Tryd.func33, Tryd.ntmps33
  go_wp2
  generalize ((w.alloc (.map #[] 0)).alloc (.map #[] 0)).alloc (.map #[] 0) = w0 at *
  go_loopw [3, 16] (fun s3 vi wr => ∃ (v : Value) (k n1 n2 n3 : Nat), v = s3 ∧ k ≤ l.length ∧ vi = .int .i64 k ∧ n1 ≤ k ∧ n2 ≤ k ∧ n3 ≤ k ∧ Hid (FOwn (w.heap.size + 1 + 1 + 1) wr v (airF l k) ∧ MapS wr w.heap.size n1 (gC (l.take k)) ∧ MapS wr (w.heap.size + 1) n2 (gL (l.take k)) ∧ MapS wr (w.heap.size + 1 + 1) n3 (gV (l.take k)) ∧ Below w.heap.size w wr)) (fun _ vi _ => l.length - (intOf vi).toNat)
  case atStart => exact ⟨_, 0, 0, 0, 0, rfl, Nat.zero_le _, rfl, Nat.le_refl _, Nat.le_refl _, Nat.le_refl _, Lib.hid ⟨ROwn.nil hBs, m1, m2, m3, hb0⟩⟩
  case round =>
    obtain ⟨v, k, n1, n2, n3, rfl, hk, rfl, hn1, hn2, hn3, HH⟩ := hrel
    clear m1 m2 m3 hb0 hBs
    by_cases hlt : k < l.length
    · obtain ⟨bb, off, a, rfl, hgl, hka, ha⟩ := (hL.more HH.out.2.2.2.2).at hlt
      obtain ⟨a0, a1, a2, a3, a4, ash⟩ := ha
      have i2 : (k : Int) < (l.length : Int) := by omega
      obtain ⟨s1, s2, s3, s4, s5⟩ := hok a (List.mem_of_getElem? hka)
      have hT : l.take (k + 1) = l.take k ++ [a] := by rw [List.take_add_one, hka]; rfl
      have HF := Lib.hid (airF_succ l k a hka)
      have HFL : Hid ((airF l k).length ≤ 1000000) := Lib.hid (by have := airF_le l k; omega)
      have hshw := HSH.out k a hka
      have hbN := bel_alloc wr (.cells #[.string a.code, .string a.city, .string a.land, .int .i64 a.off, .slice a.A a.shs.length a.c] airT)
      have lkS := lookS (HH.out.2.2.1.more hbN) a.city s2
      have q0 := cells_new wr #[.string a.code, .string a.city, .string a.land, .int .i64 a.off, .slice a.A a.shs.length a.c] airT 0
      have q1 := cells_new wr #[.string a.code, .string a.city, .string a.land, .int .i64 a.off, .slice a.A a.shs.length a.c] airT 1
      have q2 := cells_new wr #[.string a.code, .string a.city, .string a.land, .int .i64 a.off, .slice a.A a.shs.length a.c] airT 2
      have q3 := cells_new wr #[.string a.code, .string a.city, .string a.land, .int .i64 a.off, .slice a.A a.shs.length a.c] airT 3
      have q4 := cells_new wr #[.string a.code, .string a.city, .string a.land, .int .i64 a.off, .slice a.A a.shs.length a.c] airT 4
      simp only [List.getElem?_toArray, List.getElem?_cons_zero, List.getElem?_cons_succ] at q0 q1 q2 q3 q4
      have hbW := HH.out.2.2.2.2
      have hNlt : w.heap.size + 1 + 1 < wr.heap.size := HH.out.2.2.2.1.lt
      have hbw5 : Below w.heap.size w (wr.alloc (.cells #[.string a.code, .string a.city, .string a.land, .int .i64 a.off, .slice a.A a.shs.length a.c] airT)) := hbW.trans (hbN.mono hbW.size)
      have HO := Lib.hid (HH.out.1.more hbN)
      have mm1 := HH.out.2.1.more hbN
      have mm20 := HH.out.2.2.1.more hbN
      have mm30 := HH.out.2.2.2.1.more hbN
      have hvN : v.ownBlock ≠ some wr.heap.size := fun h => Nat.lt_irrefl _ (HH.out.1.low h).2
      have hv1 : v.ownBlock ≠ some w.heap.size := fun h => by have := (HH.out.1.low h).1; omega
      have hv2 : v.ownBlock ≠ some (w.heap.size + 1) := fun h => by have := (HH.out.1.low h).1; omega
      have hv3 : v.ownBlock ≠ some (w.heap.size + 1 + 1) := fun h => by have := (HH.out.1.low h).1; omega
      have hNe1 : wr.heap.size ≠ w.heap.size + 1 := by omega
      have hNe2 : wr.heap.size ≠ w.heap.size + 1 + 1 := by omega
      have h12 : w.heap.size ≠ w.heap.size + 1 := by omega
      have h13 : w.heap.size ≠ w.heap.size + 1 + 1 := by omega
      have h32 : w.heap.size + 1 + 1 ≠ w.heap.size + 1 := by omega
      have HMS := Lib.hid (mov_sev (l.take k) a)
      clear HH hka ash
      obtain ⟨N, hN⟩ : ∃ N, N = wr.heap.size := ⟨_, rfl⟩
      rw [← hN] at q0 q1 q2 q3 q4 hvN hNe1 hNe2
      cases hf : (l.take k).find? (fun b => decide (b.city = a.city)) with
      | none =>
        have hv' := (sev_new _ _ hf).1
        rw [show gL (l.take k) a.city = none by unfold gL; rw [hf]; rfl] at lkS
        go_wp2_with (at_mapUpdate; refine wpList_put rfl _ _ _ 105 rfl strK str_inj Tryd.underlying105 rfl mm20 (by unfold maxLen; omega) a.city _ rfl (str_key a.city s2) ?_; intro w6 hm6 hg6; refine Hid.out ?_)
        rw [← hN]
        have mm2 : MapS w6 (w.heap.size + 1) (n2 + 1) (gL (l.take (k + 1))) := by rw [hT, ← gL_new _ _ hf]; exact hm6
        have mm1 := mm1.grown hg6 (fun e => h12 (Option.some.inj e))
        have mm3 : MapS w6 (w.heap.size + 1 + 1) n3 (gV (l.take (k + 1))) := by
          rw [hT, show gV (l.take k ++ [a]) = gV (l.take k) by unfold gV; rw [hv']]
          exact mm30.grown hg6 (fun e => h32 (Option.some.inj e))
        have q0 := hg6.cell q0 (fun e => hNe1 (Option.some.inj e))
        have q1 := hg6.cell q1 (fun e => hNe1 (Option.some.inj e))
        have q2 := hg6.cell q2 (fun e => hNe1 (Option.some.inj e))
        have q3 := hg6.cell q3 (fun e => hNe1 (Option.some.inj e))
        have q4 := hg6.cell q4 (fun e => hNe1 (Option.some.inj e))
        have hb6 : Below w.heap.size w w6 := hbw5.grown hg6 hbw5.size (fun k hk => by cases hk; omega)
        have HO6 := Lib.hid (HO.out.grown hg6 (.inl (fun e => hv2 e.symm)))
        clear hm6 mm20 mm30 lkS hv' hg6 HO hbw5 hf hN
        refine Lib.hid ?_
        go_wp2
        have f0 : ∀ W, SX w6 v W → _ := fun W h => SX.cell q0 hvN h
        have f1 : ∀ W, SX w6 v W → _ := fun W h => SX.cell q1 hvN h
        have f2 : ∀ W, SX w6 v W → _ := fun W h => SX.cell q2 hvN h
        have f3 : ∀ W, SX w6 v W → _ := fun W h => SX.cell q3 hvN h
        have f4 : ∀ W, SX w6 v W → _ := fun W h => SX.cell q4 hvN h
        have lk1 : ∀ W, SX w6 v W → (Instr.lookup 104 (.map (some w.heap.size)) (.string a.code) false).run Tryd.prog W = .ok (.bool ((l.take k).any fun b => decide (b.code = a.code))) W := fun W h => by rw [lookB (SX.map mm1 hv1 h) a.code s1, gC_get]
        have lk2 : ∀ W, SX w6 v W → (Instr.lookup 104 (.map (some (w.heap.size + 1 + 1))) (.string a.city) false).run Tryd.prog W = .ok (.bool (movB (l.take k) a)) W := fun W h => by rw [lookB (SX.map mm3 hv3 h) a.city s2, gV_get, HMS.out, ← hT]
        have K1 := Lib.hid (fun W => codes_any a W s1 s2 s3)
        have KZ : Hid (∀ W, SX w6 v W → Calls Tryd.prog 66 #[.agg #[.int .i64 a.off, .slice a.A a.shs.length a.c]] W fun e w' => e = .returned (.int .i64 (errZ a.off a.shs)) ∧ Below W.heap.size W w') := Lib.hid (fun W hW => check_any a.off a.A a.c a.shs W s4 (hshw.more ((hb6.trans (hW.below hb6.size (fun k hk hv => by have := (HO6.out.low hv).1; omega))).mono (Nat.le_refl _))) s5)
        have KD := Lib.hid (dec_small k (by omega))
        have hadd : ∀ W : World, (Op.stringOp .add ⟨#[97, 105, 114, 112, 111, 114, 116, 32]⟩ (decA k)).run Tryd.prog W = .ok (.string (airW ++ decA k)) W := fun W => run_string_add_sum W _ _ (by have := decA_size k (by omega); have e : (⟨#[97, 105, 114, 112, 111, 114, 116, 32]⟩ : ByteArray).size = 8 := rfl; omega)
        have HEq : Hid (airE (l.take k) a = [(if (!codesB a) = true then (5 : Int) else 0), (if ((l.take k).any fun b => decide (b.code = a.code)) = true then (6 : Int) else 0), (if movB (l.take k) a = true then (8 : Int) else 0), errZ a.off a.shs]) := Lib.hid (by unfold airE; cases codesB a <;> rfl)
        have MM1 := Lib.hid mm1
        have MM2 := Lib.hid mm2
        have MM3 := Lib.hid mm3
        have HT := Lib.hid hT
        have HB6 := Lib.hid hb6
        have hO := HO6.out.more ((Below.refl _ w6).drew)
        generalize codesB a = cb at *
        generalize ((l.take k).any fun b => decide (b.code = a.code)) = c2 at *
        generalize movB (l.take k) a = c3 at *
        generalize errZ a.off a.shs = ez at *
        obtain ⟨x0, hx0⟩ : ∃ x : Int, x = (if (!cb) = true then (5 : Int) else 0) := ⟨_, rfl⟩
        obtain ⟨x1, hx1⟩ : ∃ x : Int, x = (if c2 = true then (6 : Int) else 0) := ⟨_, rfl⟩
        obtain ⟨x2, hx2⟩ : ∃ x : Int, x = (if c3 = true then (8 : Int) else 0) := ⟨_, rfl⟩
        have KW0 := Lib.hid (fun W => fwhen_any (!cb) 5 W)
        have KW1 := Lib.hid (fun W => fwhen_any c2 6 W)
        have KW2 := Lib.hid (fun W => fwhen_any c3 8 W)
        rw [← hx0] at KW0 HEq
        rw [← hx1] at KW1 HEq
        rw [← hx2] at KW2 HEq
        clear hx0 hx1 hx2
        generalize decA k = sk at *
        clear mm1 mm2 mm3 hT q0 q1 q2 q3 q4 hb6 hbN hshw
        have hS : (SX w6 v) _ := But.of_below (Below.refl _ _).drew
        refine wp_region_held_drew (S := SX w6 v) (by kernel_rfl) hS (fun _ => ?_)
        refine wpAnyH_take (i := 0) (v := ?vRa0) rfl (by kernel_rfl) (by kernel_rfl) (by kernel_rfl) (fun _ _ _ h => h) (Or.inl ⟨by rfl, ?hyRa0⟩) hS ?restRa0
        case hyRa0 =>
          intro w hSw
          first | (go_simp; done) | (go_simp; with_reducible rfl)
        try simp only [Act.put, List.setIfInBounds_toArray, List.set_cons_zero, List.set_cons_succ]
        refine wpAnyH_take (i := 1) (v := ?vRa1) rfl (by kernel_rfl) (by kernel_rfl) (by kernel_rfl) (fun _ _ _ h => h) (Or.inl ⟨by rfl, ?hyRa1⟩) hS ?restRa1
        case hyRa1 =>
          intro w hSw
          first | (go_simp; done) | (go_simp; with_reducible rfl)
        try simp only [Act.put, List.setIfInBounds_toArray, List.set_cons_zero, List.set_cons_succ]
        refine wpAnyH_take (i := 4) (v := ?vRa4) rfl (by kernel_rfl) (by kernel_rfl) (by kernel_rfl) (fun _ _ _ h => h) (Or.inl ⟨by rfl, ?hyRa4⟩) hS ?restRa4
        case hyRa4 =>
          intro w hSw
          have k0 := f0 w hSw; have k1 := f1 w hSw; have k2 := f2 w hSw; have k3 := f3 w hSw; have k4 := f4 w hSw; have k5 := lk1 w hSw; have k6 := lk2 w hSw
          first | (go_simp; done) | (go_simp; with_reducible rfl)
        try simp only [Act.put, List.setIfInBounds_toArray, List.set_cons_zero, List.set_cons_succ]
        refine wpAnyH_take (i := 8) (v := ?vRa8) rfl (by kernel_rfl) (by kernel_rfl) (by kernel_rfl) (fun _ _ _ h => h) (Or.inl ⟨by rfl, ?hyRa8⟩) hS ?restRa8
        case hyRa8 =>
          intro w hSw
          first | (go_simp; done) | (go_simp; with_reducible rfl)
        try simp only [Act.put, List.setIfInBounds_toArray, List.set_cons_zero, List.set_cons_succ]
        refine wpAnyH_take (i := 9) (v := ?vRa9) rfl (by kernel_rfl) (by kernel_rfl) (by kernel_rfl) (fun _ _ _ h => h) (Or.inl ⟨by rfl, ?hyRa9⟩) hS ?restRa9
        case hyRa9 =>
          intro w hSw
          first | (go_simp; done) | (go_simp; with_reducible rfl)
        try simp only [Act.put, List.setIfInBounds_toArray, List.set_cons_zero, List.set_cons_succ]
        refine wpAnyH_take (i := 10) (v := ?vRa10) rfl (by kernel_rfl) (by kernel_rfl) (by kernel_rfl) (fun _ _ _ h => h) (Or.inl ⟨by rfl, ?hyRa10⟩) hS ?restRa10
        case hyRa10 =>
          intro w hSw
          have k0 := f0 w hSw; have k1 := f1 w hSw; have k2 := f2 w hSw; have k3 := f3 w hSw; have k4 := f4 w hSw; have k5 := lk1 w hSw; have k6 := lk2 w hSw
          first | (go_simp; done) | (go_simp; with_reducible rfl)
        try simp only [Act.put, List.setIfInBounds_toArray, List.set_cons_zero, List.set_cons_succ]
        refine wpAnyH_take (i := 11) (v := ?vRa11) rfl (by kernel_rfl) (by kernel_rfl) (by kernel_rfl) (fun _ _ _ h => h) (Or.inl ⟨by rfl, ?hyRa11⟩) hS ?restRa11
        case hyRa11 =>
          intro w hSw
          have k0 := f0 w hSw; have k1 := f1 w hSw; have k2 := f2 w hSw; have k3 := f3 w hSw; have k4 := f4 w hSw; have k5 := lk1 w hSw; have k6 := lk2 w hSw
          first | (go_simp; done) | (go_simp; with_reducible rfl)
        try simp only [Act.put, List.setIfInBounds_toArray, List.set_cons_zero, List.set_cons_succ]
        refine wpAnyH_take (i := 13) (v := ?vRa13) rfl (by kernel_rfl) (by kernel_rfl) (by kernel_rfl) (fun _ _ _ h => h) (Or.inl ⟨by rfl, ?hyRa13⟩) hS ?restRa13
        case hyRa13 =>
          intro w hSw
          first | (go_simp; done) | (go_simp; with_reducible rfl)
        try simp only [Act.put, List.setIfInBounds_toArray, List.set_cons_zero, List.set_cons_succ]
        refine wpAnyH_take (i := 14) (v := ?vRa14) rfl (by kernel_rfl) (by kernel_rfl) (by kernel_rfl) (fun _ _ _ h => h) (Or.inl ⟨by rfl, ?hyRa14⟩) hS ?restRa14
        case hyRa14 =>
          intro w hSw
          first | (go_simp; done) | (go_simp; with_reducible rfl)
        try simp only [Act.put, List.setIfInBounds_toArray, List.set_cons_zero, List.set_cons_succ]
        refine wpAnyH_take (i := 15) (v := ?vRa15) rfl (by kernel_rfl) (by kernel_rfl) (by kernel_rfl) (fun _ _ _ h => h) (Or.inl ⟨by rfl, ?hyRa15⟩) hS ?restRa15
        case hyRa15 =>
          intro w hSw
          have k0 := f0 w hSw; have k1 := f1 w hSw; have k2 := f2 w hSw; have k3 := f3 w hSw; have k4 := f4 w hSw; have k5 := lk1 w hSw; have k6 := lk2 w hSw
          first | (go_simp; done) | (go_simp; with_reducible rfl)
        try simp only [Act.put, List.setIfInBounds_toArray, List.set_cons_zero, List.set_cons_succ]
        refine wpAnyH_take (i := 16) (v := ?vRa16) rfl (by kernel_rfl) (by kernel_rfl) (by kernel_rfl) (fun _ _ _ h => h) (Or.inl ⟨by rfl, ?hyRa16⟩) hS ?restRa16
        case hyRa16 =>
          intro w hSw
          have k0 := f0 w hSw; have k1 := f1 w hSw; have k2 := f2 w hSw; have k3 := f3 w hSw; have k4 := f4 w hSw; have k5 := lk1 w hSw; have k6 := lk2 w hSw
          first | (go_simp; done) | (go_simp; with_reducible rfl)
        try simp only [Act.put, List.setIfInBounds_toArray, List.set_cons_zero, List.set_cons_succ]
        refine wpAnyH_take (i := 18) (v := ?vRa18) rfl (by kernel_rfl) (by kernel_rfl) (by kernel_rfl) (fun _ _ _ h => h) (Or.inl ⟨by rfl, ?hyRa18⟩) hS ?restRa18
        case hyRa18 =>
          intro w hSw
          first | (go_simp; done) | (go_simp; with_reducible rfl)
        try simp only [Act.put, List.setIfInBounds_toArray, List.set_cons_zero, List.set_cons_succ]
        refine wpAnyH_take (i := 19) (v := ?vRa19) rfl (by kernel_rfl) (by kernel_rfl) (by kernel_rfl) (fun _ _ _ h => h) (Or.inl ⟨by rfl, ?hyRa19⟩) hS ?restRa19
        case hyRa19 =>
          intro w hSw
          have k0 := f0 w hSw; have k1 := f1 w hSw; have k2 := f2 w hSw; have k3 := f3 w hSw; have k4 := f4 w hSw; have k5 := lk1 w hSw; have k6 := lk2 w hSw
          first | (go_simp; done) | (go_simp; with_reducible rfl)
        try simp only [Act.put, List.setIfInBounds_toArray, List.set_cons_zero, List.set_cons_succ]
        refine wpAnyH_ready (rs := [2]) (by kernel_rfl) (by simp) ?_
        refine AllReadyH.cons rfl (fun K hK => ?_) AllReadyH.nil
        go_simp
        go_wp2_with ((go_at_call 52; refine (KD.out _).mono ?_; rintro e w' ⟨rfl, rfl⟩))
        refine hK.out _ _ hS (fun _ => ?_)
        clear hK K
        refine wpAnyH_take (i := 3) (v := ?vRa3) rfl (by kernel_rfl) (by kernel_rfl) (by kernel_rfl) (fun _ _ _ h => h) (Or.inl ⟨by rfl, ?hyRa3⟩) hS ?restRa3
        case hyRa3 =>
          intro w hSw
          have kadd := hadd w
          first | (go_simp; done) | (go_simp; with_reducible rfl)
        try simp only [Act.put, List.setIfInBounds_toArray, List.set_cons_zero, List.set_cons_succ]
        refine wpAnyH_ready (rs := [5]) (by kernel_rfl) (by simp) ?_
        refine AllReadyH.cons rfl (fun K hK => ?_) AllReadyH.nil
        go_simp
        go_wp2_with ((go_at_call 65; refine (K1.out _).mono ?_; rintro e w' ⟨rfl, hb'⟩; have hO := hO.more hb'; have hS := hS.on hb'))
        refine hK.out _ _ hS (fun _ => ?_)
        clear hK K
        refine wpAnyH_take (i := 6) (v := ?vRa6) rfl (by kernel_rfl) (by kernel_rfl) (by kernel_rfl) (fun _ _ _ h => h) (Or.inl ⟨by rfl, ?hyRa6⟩) hS ?restRa6
        case hyRa6 =>
          intro w hSw
          first | (go_simp; done) | (go_simp; with_reducible rfl)
        try simp only [Act.put, List.setIfInBounds_toArray, List.set_cons_zero, List.set_cons_succ]
        refine wpAnyH_ready (rs := [7]) (by kernel_rfl) (by simp) ?_
        refine AllReadyH.cons rfl (fun K hK => ?_) AllReadyH.nil
        go_simp
        go_wp2_with ((go_at_call 47; refine (KW0.out _).mono ?_; rintro e w' ⟨rfl, rfl⟩))
        refine hK.out _ _ hS (fun _ => ?_)
        clear hK K
        refine wpAnyH_ready (rs := [12]) (by kernel_rfl) (by simp) ?_
        refine AllReadyH.cons rfl (fun K hK => ?_) AllReadyH.nil
        go_simp
        go_wp2_with ((go_at_call 47; refine (KW1.out _).mono ?_; rintro e w' ⟨rfl, rfl⟩))
        refine hK.out _ _ hS (fun _ => ?_)
        clear hK K
        refine wpAnyH_ready (rs := [17]) (by kernel_rfl) (by simp) ?_
        refine AllReadyH.cons rfl (fun K hK => ?_) AllReadyH.nil
        go_simp
        go_wp2_with ((go_at_call 47; refine (KW2.out _).mono ?_; rintro e w' ⟨rfl, rfl⟩))
        refine hK.out _ _ hS (fun _ => ?_)
        clear hK K
        refine wpAnyH_ready (rs := [20]) (by kernel_rfl) (by simp) ?_
        refine AllReadyH.cons rfl (fun K hK => ?_) AllReadyH.nil
        go_simp
        go_wp2_with ((go_at_call 66; refine (KZ.out _ hS).mono ?_; rintro e w' ⟨rfl, hb'⟩; have hO := hO.more hb'; have hS := hS.on hb'))
        refine hK.out _ _ hS (fun _ => ?_)
        clear hK K
        refine wpAnyH_ready (rs := [21]) (by kernel_rfl) (by simp) ?_
        refine AllReadyH.cons rfl (fun K hK => ?_) AllReadyH.nil
        go_simp
        have hNv : v.ownBlock ≠ some w'.heap.size := fun h => Nat.lt_irrefl _ (hO.low h).2
        have hO := hO.alloc (.cells #[.int .i64 x0, .int .i64 x1, .int .i64 x2, .int .i64 ez] errT)
        have hS := hS.on (bel_alloc _ (.cells #[.int .i64 x0, .int .i64 x1, .int .i64 x2, .int .i64 ez] errT))
        refine hK.out _ _ hS (fun _ => ?_)
        clear hK K
        refine wpAnyH_ready (rs := [22]) (by kernel_rfl) (by simp) ?_
        refine AllReadyH.cons rfl (fun K hK => ?_) AllReadyH.nil
        go_simp
        go_wp2_with ((go_at_call 46; refine (fadd_any _ v _ _ w'.heap.size 4 4 [x0, x1, x2, ez] _ hO rfl (by omega) (errs_new w' _ rfl) hNv HFL.out).mono ?_; rintro e w8 ⟨v8, rfl, hO8, hC8⟩; have hS := hS.trans hC8.but (fun _ _ h => h)))
        refine hK.out _ _ hS (fun _ => ?_)
        clear hK K
        refine wpAnyH_take (i := 23) (v := ?vRa23) rfl (by kernel_rfl) (by kernel_rfl) (by kernel_rfl) (fun _ _ _ h => h) (Or.inl ⟨by rfl, ?hyRa23⟩) hS ?restRa23
        case hyRa23 =>
          intro w hSw
          first | (go_simp; done) | (go_simp; with_reducible rfl)
        try simp only [Act.put, List.setIfInBounds_toArray, List.set_cons_zero, List.set_cons_succ]
        refine wpAnyH_done (by kernel_rfl) ?_ _
        have x0 := f0 _ hS
        have hm9 := SX.map MM1.out hv1 hS
        go_wp2_with (at_mapUpdate; refine wpList_put rfl _ _ _ 104 rfl strK str_inj Tryd.underlying104 rfl hm9 (by unfold maxLen; omega) a.code _ rfl (str_key a.code s1) ?_; intro w9 hm9 hg9; refine Hid.out ?_)
        have hb8 : Below w.heap.size w w8 := HB6.out.trans (hS.below HB6.out.size (fun k hk hv => by have := (HO6.out.low hv).1; omega))
        have hb9 : Below w.heap.size w w9 := hb8.grown hg9 hb8.size (fun k hk => by cases hk; exact Nat.le_refl _)
        have HX : Hid (FOwn (w.heap.size + 1 + 1 + 1) w9 v8 (airF l (k + 1)) ∧ MapS w9 w.heap.size (n1 + 1) (gC (l.take (k + 1))) ∧ MapS w9 (w.heap.size + 1) (n2 + 1) (gL (l.take (k + 1))) ∧ MapS w9 (w.heap.size + 1 + 1) n3 (gV (l.take (k + 1))) ∧ Below w.heap.size w w9) := Lib.hid ⟨by
            rw [HF.out, HEq.out]
            exact hO8.grown hg9 (.inl (fun e => by have := (hO8.low e.symm).1; omega)), by rw [HT.out, ← gC_put]; exact hm9, (SX.map MM2.out hv2 hS).grown hg9 (fun e => h12 (Option.some.inj e).symm), (SX.map MM3.out hv3 hS).grown hg9 (fun e => h13 (Option.some.inj e).symm), hb9⟩
        clear hm9 hg9 hb9 hb8 hO8 hC8 hS hO
        refine Lib.hid ?_
        go_wp2
        go_roundw
        case rel => exact ⟨_, k + 1, n1 + 1, (n2 + 1), n3, rfl, by omega, by go_num, by omega, by omega, by omega, HX⟩
        case measure => simp [intOf]; omega
      | some f =>
        have lkS' : (Instr.lookup 105 (.map (some (w.heap.size + 1))) (.string a.city) true).run Tryd.prog (wr.alloc (.cells #[.string a.code, .string a.city, .string a.land, .int .i64 a.off, .slice a.A a.shs.length a.c] airT)) = .ok (.tuple #[.string f.land, .bool true]) (wr.alloc (.cells #[.string a.code, .string a.city, .string a.land, .int .i64 a.off, .slice a.A a.shs.length a.c] airT)) := by
          rw [lkS, show gL (l.take k) a.city = some (.string f.land) by unfold gL; rw [hf]; rfl]; rfl
        clear lkS
        have mm2 : MapS (wr.alloc (.cells #[.string a.code, .string a.city, .string a.land, .int .i64 a.off, .slice a.A a.shs.length a.c] airT)) (w.heap.size + 1) n2 (gL (l.take (k + 1))) := by rw [hT, gL_old _ _ _ hf]; exact mm20
        by_cases hfl : f.land = a.land
        · have hv' := (sev_same _ _ _ hf hfl).1
          have hne : (f.land.toList == a.land.toList) = true := by rw [hfl]; simp
          have mm3 : MapS (wr.alloc (.cells #[.string a.code, .string a.city, .string a.land, .int .i64 a.off, .slice a.A a.shs.length a.c] airT)) (w.heap.size + 1 + 1) n3 (gV (l.take (k + 1))) := by
            rw [hT, show gV (l.take k ++ [a]) = gV (l.take k) by unfold gV; rw [hv']]
            exact mm30
          have hb6 := hbw5
          have HO6 := HO
          clear mm20 mm30 hv' HO hbw5 hf hfl
          go_wp2
          rw [← hN]
          clear hN
          generalize wr.alloc (.cells #[.string a.code, .string a.city, .string a.land, .int .i64 a.off, .slice a.A a.shs.length a.c] airT) = w6 at *
          have f0 : ∀ W, SX w6 v W → _ := fun W h => SX.cell q0 hvN h
          have f1 : ∀ W, SX w6 v W → _ := fun W h => SX.cell q1 hvN h
          have f2 : ∀ W, SX w6 v W → _ := fun W h => SX.cell q2 hvN h
          have f3 : ∀ W, SX w6 v W → _ := fun W h => SX.cell q3 hvN h
          have f4 : ∀ W, SX w6 v W → _ := fun W h => SX.cell q4 hvN h
          have lk1 : ∀ W, SX w6 v W → (Instr.lookup 104 (.map (some w.heap.size)) (.string a.code) false).run Tryd.prog W = .ok (.bool ((l.take k).any fun b => decide (b.code = a.code))) W := fun W h => by rw [lookB (SX.map mm1 hv1 h) a.code s1, gC_get]
          have lk2 : ∀ W, SX w6 v W → (Instr.lookup 104 (.map (some (w.heap.size + 1 + 1))) (.string a.city) false).run Tryd.prog W = .ok (.bool (movB (l.take k) a)) W := fun W h => by rw [lookB (SX.map mm3 hv3 h) a.city s2, gV_get, HMS.out, ← hT]
          have K1 := Lib.hid (fun W => codes_any a W s1 s2 s3)
          have KZ : Hid (∀ W, SX w6 v W → Calls Tryd.prog 66 #[.agg #[.int .i64 a.off, .slice a.A a.shs.length a.c]] W fun e w' => e = .returned (.int .i64 (errZ a.off a.shs)) ∧ Below W.heap.size W w') := Lib.hid (fun W hW => check_any a.off a.A a.c a.shs W s4 (hshw.more ((hb6.trans (hW.below hb6.size (fun k hk hv => by have := (HO6.out.low hv).1; omega))).mono (Nat.le_refl _))) s5)
          have KD := Lib.hid (dec_small k (by omega))
          have hadd : ∀ W : World, (Op.stringOp .add ⟨#[97, 105, 114, 112, 111, 114, 116, 32]⟩ (decA k)).run Tryd.prog W = .ok (.string (airW ++ decA k)) W := fun W => run_string_add_sum W _ _ (by have := decA_size k (by omega); have e : (⟨#[97, 105, 114, 112, 111, 114, 116, 32]⟩ : ByteArray).size = 8 := rfl; omega)
          have HEq : Hid (airE (l.take k) a = [(if (!codesB a) = true then (5 : Int) else 0), (if ((l.take k).any fun b => decide (b.code = a.code)) = true then (6 : Int) else 0), (if movB (l.take k) a = true then (8 : Int) else 0), errZ a.off a.shs]) := Lib.hid (by unfold airE; cases codesB a <;> rfl)
          have MM1 := Lib.hid mm1
          have MM2 := Lib.hid mm2
          have MM3 := Lib.hid mm3
          have HT := Lib.hid hT
          have HB6 := Lib.hid hb6
          have hO := HO6.out.more ((Below.refl _ w6).drew)
          generalize codesB a = cb at *
          generalize ((l.take k).any fun b => decide (b.code = a.code)) = c2 at *
          generalize movB (l.take k) a = c3 at *
          generalize errZ a.off a.shs = ez at *
          obtain ⟨x0, hx0⟩ : ∃ x : Int, x = (if (!cb) = true then (5 : Int) else 0) := ⟨_, rfl⟩
          obtain ⟨x1, hx1⟩ : ∃ x : Int, x = (if c2 = true then (6 : Int) else 0) := ⟨_, rfl⟩
          obtain ⟨x2, hx2⟩ : ∃ x : Int, x = (if c3 = true then (8 : Int) else 0) := ⟨_, rfl⟩
          have KW0 := Lib.hid (fun W => fwhen_any (!cb) 5 W)
          have KW1 := Lib.hid (fun W => fwhen_any c2 6 W)
          have KW2 := Lib.hid (fun W => fwhen_any c3 8 W)
          rw [← hx0] at KW0 HEq
          rw [← hx1] at KW1 HEq
          rw [← hx2] at KW2 HEq
          clear hx0 hx1 hx2
          generalize decA k = sk at *
          clear mm1 mm2 mm3 hT q0 q1 q2 q3 q4 hb6 hbN hshw
          have hS : (SX w6 v) _ := But.of_below (Below.refl _ _).drew
          refine wp_region_held_drew (S := SX w6 v) (by kernel_rfl) hS (fun _ => ?_)
          refine wpAnyH_take (i := 0) (v := ?vRb0) rfl (by kernel_rfl) (by kernel_rfl) (by kernel_rfl) (fun _ _ _ h => h) (Or.inl ⟨by rfl, ?hyRb0⟩) hS ?restRb0
          case hyRb0 =>
            intro w hSw
            first | (go_simp; done) | (go_simp; with_reducible rfl)
          try simp only [Act.put, List.setIfInBounds_toArray, List.set_cons_zero, List.set_cons_succ]
          refine wpAnyH_take (i := 1) (v := ?vRb1) rfl (by kernel_rfl) (by kernel_rfl) (by kernel_rfl) (fun _ _ _ h => h) (Or.inl ⟨by rfl, ?hyRb1⟩) hS ?restRb1
          case hyRb1 =>
            intro w hSw
            first | (go_simp; done) | (go_simp; with_reducible rfl)
          try simp only [Act.put, List.setIfInBounds_toArray, List.set_cons_zero, List.set_cons_succ]
          refine wpAnyH_take (i := 4) (v := ?vRb4) rfl (by kernel_rfl) (by kernel_rfl) (by kernel_rfl) (fun _ _ _ h => h) (Or.inl ⟨by rfl, ?hyRb4⟩) hS ?restRb4
          case hyRb4 =>
            intro w hSw
            have k0 := f0 w hSw; have k1 := f1 w hSw; have k2 := f2 w hSw; have k3 := f3 w hSw; have k4 := f4 w hSw; have k5 := lk1 w hSw; have k6 := lk2 w hSw
            first | (go_simp; done) | (go_simp; with_reducible rfl)
          try simp only [Act.put, List.setIfInBounds_toArray, List.set_cons_zero, List.set_cons_succ]
          refine wpAnyH_take (i := 8) (v := ?vRb8) rfl (by kernel_rfl) (by kernel_rfl) (by kernel_rfl) (fun _ _ _ h => h) (Or.inl ⟨by rfl, ?hyRb8⟩) hS ?restRb8
          case hyRb8 =>
            intro w hSw
            first | (go_simp; done) | (go_simp; with_reducible rfl)
          try simp only [Act.put, List.setIfInBounds_toArray, List.set_cons_zero, List.set_cons_succ]
          refine wpAnyH_take (i := 9) (v := ?vRb9) rfl (by kernel_rfl) (by kernel_rfl) (by kernel_rfl) (fun _ _ _ h => h) (Or.inl ⟨by rfl, ?hyRb9⟩) hS ?restRb9
          case hyRb9 =>
            intro w hSw
            first | (go_simp; done) | (go_simp; with_reducible rfl)
          try simp only [Act.put, List.setIfInBounds_toArray, List.set_cons_zero, List.set_cons_succ]
          refine wpAnyH_take (i := 10) (v := ?vRb10) rfl (by kernel_rfl) (by kernel_rfl) (by kernel_rfl) (fun _ _ _ h => h) (Or.inl ⟨by rfl, ?hyRb10⟩) hS ?restRb10
          case hyRb10 =>
            intro w hSw
            have k0 := f0 w hSw; have k1 := f1 w hSw; have k2 := f2 w hSw; have k3 := f3 w hSw; have k4 := f4 w hSw; have k5 := lk1 w hSw; have k6 := lk2 w hSw
            first | (go_simp; done) | (go_simp; with_reducible rfl)
          try simp only [Act.put, List.setIfInBounds_toArray, List.set_cons_zero, List.set_cons_succ]
          refine wpAnyH_take (i := 11) (v := ?vRb11) rfl (by kernel_rfl) (by kernel_rfl) (by kernel_rfl) (fun _ _ _ h => h) (Or.inl ⟨by rfl, ?hyRb11⟩) hS ?restRb11
          case hyRb11 =>
            intro w hSw
            have k0 := f0 w hSw; have k1 := f1 w hSw; have k2 := f2 w hSw; have k3 := f3 w hSw; have k4 := f4 w hSw; have k5 := lk1 w hSw; have k6 := lk2 w hSw
            first | (go_simp; done) | (go_simp; with_reducible rfl)
          try simp only [Act.put, List.setIfInBounds_toArray, List.set_cons_zero, List.set_cons_succ]
          refine wpAnyH_take (i := 13) (v := ?vRb13) rfl (by kernel_rfl) (by kernel_rfl) (by kernel_rfl) (fun _ _ _ h => h) (Or.inl ⟨by rfl, ?hyRb13⟩) hS ?restRb13
          case hyRb13 =>
            intro w hSw
            first | (go_simp; done) | (go_simp; with_reducible rfl)
          try simp only [Act.put, List.setIfInBounds_toArray, List.set_cons_zero, List.set_cons_succ]
          refine wpAnyH_take (i := 14) (v := ?vRb14) rfl (by kernel_rfl) (by kernel_rfl) (by kernel_rfl) (fun _ _ _ h => h) (Or.inl ⟨by rfl, ?hyRb14⟩) hS ?restRb14
          case hyRb14 =>
            intro w hSw
            first | (go_simp; done) | (go_simp; with_reducible rfl)
          try simp only [Act.put, List.setIfInBounds_toArray, List.set_cons_zero, List.set_cons_succ]
          refine wpAnyH_take (i := 15) (v := ?vRb15) rfl (by kernel_rfl) (by kernel_rfl) (by kernel_rfl) (fun _ _ _ h => h) (Or.inl ⟨by rfl, ?hyRb15⟩) hS ?restRb15
          case hyRb15 =>
            intro w hSw
            have k0 := f0 w hSw; have k1 := f1 w hSw; have k2 := f2 w hSw; have k3 := f3 w hSw; have k4 := f4 w hSw; have k5 := lk1 w hSw; have k6 := lk2 w hSw
            first | (go_simp; done) | (go_simp; with_reducible rfl)
          try simp only [Act.put, List.setIfInBounds_toArray, List.set_cons_zero, List.set_cons_succ]
          refine wpAnyH_take (i := 16) (v := ?vRb16) rfl (by kernel_rfl) (by kernel_rfl) (by kernel_rfl) (fun _ _ _ h => h) (Or.inl ⟨by rfl, ?hyRb16⟩) hS ?restRb16
          case hyRb16 =>
            intro w hSw
            have k0 := f0 w hSw; have k1 := f1 w hSw; have k2 := f2 w hSw; have k3 := f3 w hSw; have k4 := f4 w hSw; have k5 := lk1 w hSw; have k6 := lk2 w hSw
            first | (go_simp; done) | (go_simp; with_reducible rfl)
          try simp only [Act.put, List.setIfInBounds_toArray, List.set_cons_zero, List.set_cons_succ]
          refine wpAnyH_take (i := 18) (v := ?vRb18) rfl (by kernel_rfl) (by kernel_rfl) (by kernel_rfl) (fun _ _ _ h => h) (Or.inl ⟨by rfl, ?hyRb18⟩) hS ?restRb18
          case hyRb18 =>
            intro w hSw
            first | (go_simp; done) | (go_simp; with_reducible rfl)
          try simp only [Act.put, List.setIfInBounds_toArray, List.set_cons_zero, List.set_cons_succ]
          refine wpAnyH_take (i := 19) (v := ?vRb19) rfl (by kernel_rfl) (by kernel_rfl) (by kernel_rfl) (fun _ _ _ h => h) (Or.inl ⟨by rfl, ?hyRb19⟩) hS ?restRb19
          case hyRb19 =>
            intro w hSw
            have k0 := f0 w hSw; have k1 := f1 w hSw; have k2 := f2 w hSw; have k3 := f3 w hSw; have k4 := f4 w hSw; have k5 := lk1 w hSw; have k6 := lk2 w hSw
            first | (go_simp; done) | (go_simp; with_reducible rfl)
          try simp only [Act.put, List.setIfInBounds_toArray, List.set_cons_zero, List.set_cons_succ]
          refine wpAnyH_ready (rs := [2]) (by kernel_rfl) (by simp) ?_
          refine AllReadyH.cons rfl (fun K hK => ?_) AllReadyH.nil
          go_simp
          go_wp2_with ((go_at_call 52; refine (KD.out _).mono ?_; rintro e w' ⟨rfl, rfl⟩))
          refine hK.out _ _ hS (fun _ => ?_)
          clear hK K
          refine wpAnyH_take (i := 3) (v := ?vRb3) rfl (by kernel_rfl) (by kernel_rfl) (by kernel_rfl) (fun _ _ _ h => h) (Or.inl ⟨by rfl, ?hyRb3⟩) hS ?restRb3
          case hyRb3 =>
            intro w hSw
            have kadd := hadd w
            first | (go_simp; done) | (go_simp; with_reducible rfl)
          try simp only [Act.put, List.setIfInBounds_toArray, List.set_cons_zero, List.set_cons_succ]
          refine wpAnyH_ready (rs := [5]) (by kernel_rfl) (by simp) ?_
          refine AllReadyH.cons rfl (fun K hK => ?_) AllReadyH.nil
          go_simp
          go_wp2_with ((go_at_call 65; refine (K1.out _).mono ?_; rintro e w' ⟨rfl, hb'⟩; have hO := hO.more hb'; have hS := hS.on hb'))
          refine hK.out _ _ hS (fun _ => ?_)
          clear hK K
          refine wpAnyH_take (i := 6) (v := ?vRb6) rfl (by kernel_rfl) (by kernel_rfl) (by kernel_rfl) (fun _ _ _ h => h) (Or.inl ⟨by rfl, ?hyRb6⟩) hS ?restRb6
          case hyRb6 =>
            intro w hSw
            first | (go_simp; done) | (go_simp; with_reducible rfl)
          try simp only [Act.put, List.setIfInBounds_toArray, List.set_cons_zero, List.set_cons_succ]
          refine wpAnyH_ready (rs := [7]) (by kernel_rfl) (by simp) ?_
          refine AllReadyH.cons rfl (fun K hK => ?_) AllReadyH.nil
          go_simp
          go_wp2_with ((go_at_call 47; refine (KW0.out _).mono ?_; rintro e w' ⟨rfl, rfl⟩))
          refine hK.out _ _ hS (fun _ => ?_)
          clear hK K
          refine wpAnyH_ready (rs := [12]) (by kernel_rfl) (by simp) ?_
          refine AllReadyH.cons rfl (fun K hK => ?_) AllReadyH.nil
          go_simp
          go_wp2_with ((go_at_call 47; refine (KW1.out _).mono ?_; rintro e w' ⟨rfl, rfl⟩))
          refine hK.out _ _ hS (fun _ => ?_)
          clear hK K
          refine wpAnyH_ready (rs := [17]) (by kernel_rfl) (by simp) ?_
          refine AllReadyH.cons rfl (fun K hK => ?_) AllReadyH.nil
          go_simp
          go_wp2_with ((go_at_call 47; refine (KW2.out _).mono ?_; rintro e w' ⟨rfl, rfl⟩))
          refine hK.out _ _ hS (fun _ => ?_)
          clear hK K
          refine wpAnyH_ready (rs := [20]) (by kernel_rfl) (by simp) ?_
          refine AllReadyH.cons rfl (fun K hK => ?_) AllReadyH.nil
          go_simp
          go_wp2_with ((go_at_call 66; refine (KZ.out _ hS).mono ?_; rintro e w' ⟨rfl, hb'⟩; have hO := hO.more hb'; have hS := hS.on hb'))
          refine hK.out _ _ hS (fun _ => ?_)
          clear hK K
          refine wpAnyH_ready (rs := [21]) (by kernel_rfl) (by simp) ?_
          refine AllReadyH.cons rfl (fun K hK => ?_) AllReadyH.nil
          go_simp
          have hNv : v.ownBlock ≠ some w'.heap.size := fun h => Nat.lt_irrefl _ (hO.low h).2
          have hO := hO.alloc (.cells #[.int .i64 x0, .int .i64 x1, .int .i64 x2, .int .i64 ez] errT)
          have hS := hS.on (bel_alloc _ (.cells #[.int .i64 x0, .int .i64 x1, .int .i64 x2, .int .i64 ez] errT))
          refine hK.out _ _ hS (fun _ => ?_)
          clear hK K
          refine wpAnyH_ready (rs := [22]) (by kernel_rfl) (by simp) ?_
          refine AllReadyH.cons rfl (fun K hK => ?_) AllReadyH.nil
          go_simp
          go_wp2_with ((go_at_call 46; refine (fadd_any _ v _ _ w'.heap.size 4 4 [x0, x1, x2, ez] _ hO rfl (by omega) (errs_new w' _ rfl) hNv HFL.out).mono ?_; rintro e w8 ⟨v8, rfl, hO8, hC8⟩; have hS := hS.trans hC8.but (fun _ _ h => h)))
          refine hK.out _ _ hS (fun _ => ?_)
          clear hK K
          refine wpAnyH_take (i := 23) (v := ?vRb23) rfl (by kernel_rfl) (by kernel_rfl) (by kernel_rfl) (fun _ _ _ h => h) (Or.inl ⟨by rfl, ?hyRb23⟩) hS ?restRb23
          case hyRb23 =>
            intro w hSw
            first | (go_simp; done) | (go_simp; with_reducible rfl)
          try simp only [Act.put, List.setIfInBounds_toArray, List.set_cons_zero, List.set_cons_succ]
          refine wpAnyH_done (by kernel_rfl) ?_ _
          have x0 := f0 _ hS
          have hm9 := SX.map MM1.out hv1 hS
          go_wp2_with (at_mapUpdate; refine wpList_put rfl _ _ _ 104 rfl strK str_inj Tryd.underlying104 rfl hm9 (by unfold maxLen; omega) a.code _ rfl (str_key a.code s1) ?_; intro w9 hm9 hg9; refine Hid.out ?_)
          have hb8 : Below w.heap.size w w8 := HB6.out.trans (hS.below HB6.out.size (fun k hk hv => by have := (HO6.out.low hv).1; omega))
          have hb9 : Below w.heap.size w w9 := hb8.grown hg9 hb8.size (fun k hk => by cases hk; exact Nat.le_refl _)
          have HX : Hid (FOwn (w.heap.size + 1 + 1 + 1) w9 v8 (airF l (k + 1)) ∧ MapS w9 w.heap.size (n1 + 1) (gC (l.take (k + 1))) ∧ MapS w9 (w.heap.size + 1) n2 (gL (l.take (k + 1))) ∧ MapS w9 (w.heap.size + 1 + 1) n3 (gV (l.take (k + 1))) ∧ Below w.heap.size w w9) := Lib.hid ⟨by
              rw [HF.out, HEq.out]
              exact hO8.grown hg9 (.inl (fun e => by have := (hO8.low e.symm).1; omega)), by rw [HT.out, ← gC_put]; exact hm9, (SX.map MM2.out hv2 hS).grown hg9 (fun e => h12 (Option.some.inj e).symm), (SX.map MM3.out hv3 hS).grown hg9 (fun e => h13 (Option.some.inj e).symm), hb9⟩
          clear hm9 hg9 hb9 hb8 hO8 hC8 hS hO
          refine Lib.hid ?_
          go_wp2
          go_roundw
          case rel => exact ⟨_, k + 1, n1 + 1, n2, n3, rfl, by omega, by go_num, by omega, by omega, by omega, HX⟩
          case measure => simp [intOf]; omega
        · have hv' := (sev_diff _ _ _ hf hfl).1
          have hne : (f.land.toList == a.land.toList) = false := by
            cases h : (f.land.toList == a.land.toList) with
            | false => rfl
            | true => exact absurd ((eqS_iff _ _).1 h) hfl
          go_wp2_with (at_mapUpdate; refine wpList_put rfl _ _ _ 104 rfl strK str_inj Tryd.underlying104 rfl mm30 (by unfold maxLen; omega) a.city _ rfl (str_key a.city s2) ?_; intro w6 hm6 hg6; refine Hid.out ?_)
          rw [← hN]
          have mm3 : MapS w6 (w.heap.size + 1 + 1) (n3 + 1) (gV (l.take (k + 1))) := by rw [hT, ← gV_put _ _ hv']; exact hm6
          have mm1 := mm1.grown hg6 (fun e => h13 (Option.some.inj e))
          have mm2 := mm2.grown hg6 (fun e => h32 (Option.some.inj e).symm)
          have q0 := hg6.cell q0 (fun e => hNe2 (Option.some.inj e))
          have q1 := hg6.cell q1 (fun e => hNe2 (Option.some.inj e))
          have q2 := hg6.cell q2 (fun e => hNe2 (Option.some.inj e))
          have q3 := hg6.cell q3 (fun e => hNe2 (Option.some.inj e))
          have q4 := hg6.cell q4 (fun e => hNe2 (Option.some.inj e))
          have hb6 : Below w.heap.size w w6 := hbw5.grown hg6 hbw5.size (fun k hk => by cases hk; omega)
          have HO6 := Lib.hid (HO.out.grown hg6 (.inl (fun e => hv3 e.symm)))
          clear hm6 mm20 mm30 lkS' hv' hg6 HO hbw5 hf hN hfl
          refine Lib.hid ?_
          go_wp2
          have f0 : ∀ W, SX w6 v W → _ := fun W h => SX.cell q0 hvN h
          have f1 : ∀ W, SX w6 v W → _ := fun W h => SX.cell q1 hvN h
          have f2 : ∀ W, SX w6 v W → _ := fun W h => SX.cell q2 hvN h
          have f3 : ∀ W, SX w6 v W → _ := fun W h => SX.cell q3 hvN h
          have f4 : ∀ W, SX w6 v W → _ := fun W h => SX.cell q4 hvN h
          have lk1 : ∀ W, SX w6 v W → (Instr.lookup 104 (.map (some w.heap.size)) (.string a.code) false).run Tryd.prog W = .ok (.bool ((l.take k).any fun b => decide (b.code = a.code))) W := fun W h => by rw [lookB (SX.map mm1 hv1 h) a.code s1, gC_get]
          have lk2 : ∀ W, SX w6 v W → (Instr.lookup 104 (.map (some (w.heap.size + 1 + 1))) (.string a.city) false).run Tryd.prog W = .ok (.bool (movB (l.take k) a)) W := fun W h => by rw [lookB (SX.map mm3 hv3 h) a.city s2, gV_get, HMS.out, ← hT]
          have K1 := Lib.hid (fun W => codes_any a W s1 s2 s3)
          have KZ : Hid (∀ W, SX w6 v W → Calls Tryd.prog 66 #[.agg #[.int .i64 a.off, .slice a.A a.shs.length a.c]] W fun e w' => e = .returned (.int .i64 (errZ a.off a.shs)) ∧ Below W.heap.size W w') := Lib.hid (fun W hW => check_any a.off a.A a.c a.shs W s4 (hshw.more ((hb6.trans (hW.below hb6.size (fun k hk hv => by have := (HO6.out.low hv).1; omega))).mono (Nat.le_refl _))) s5)
          have KD := Lib.hid (dec_small k (by omega))
          have hadd : ∀ W : World, (Op.stringOp .add ⟨#[97, 105, 114, 112, 111, 114, 116, 32]⟩ (decA k)).run Tryd.prog W = .ok (.string (airW ++ decA k)) W := fun W => run_string_add_sum W _ _ (by have := decA_size k (by omega); have e : (⟨#[97, 105, 114, 112, 111, 114, 116, 32]⟩ : ByteArray).size = 8 := rfl; omega)
          have HEq : Hid (airE (l.take k) a = [(if (!codesB a) = true then (5 : Int) else 0), (if ((l.take k).any fun b => decide (b.code = a.code)) = true then (6 : Int) else 0), (if movB (l.take k) a = true then (8 : Int) else 0), errZ a.off a.shs]) := Lib.hid (by unfold airE; cases codesB a <;> rfl)
          have MM1 := Lib.hid mm1
          have MM2 := Lib.hid mm2
          have MM3 := Lib.hid mm3
          have HT := Lib.hid hT
          have HB6 := Lib.hid hb6
          have hO := HO6.out.more ((Below.refl _ w6).drew)
          generalize codesB a = cb at *
          generalize ((l.take k).any fun b => decide (b.code = a.code)) = c2 at *
          generalize movB (l.take k) a = c3 at *
          generalize errZ a.off a.shs = ez at *
          obtain ⟨x0, hx0⟩ : ∃ x : Int, x = (if (!cb) = true then (5 : Int) else 0) := ⟨_, rfl⟩
          obtain ⟨x1, hx1⟩ : ∃ x : Int, x = (if c2 = true then (6 : Int) else 0) := ⟨_, rfl⟩
          obtain ⟨x2, hx2⟩ : ∃ x : Int, x = (if c3 = true then (8 : Int) else 0) := ⟨_, rfl⟩
          have KW0 := Lib.hid (fun W => fwhen_any (!cb) 5 W)
          have KW1 := Lib.hid (fun W => fwhen_any c2 6 W)
          have KW2 := Lib.hid (fun W => fwhen_any c3 8 W)
          rw [← hx0] at KW0 HEq
          rw [← hx1] at KW1 HEq
          rw [← hx2] at KW2 HEq
          clear hx0 hx1 hx2
          generalize decA k = sk at *
          clear mm1 mm2 mm3 hT q0 q1 q2 q3 q4 hb6 hbN hshw
          have hS : (SX w6 v) _ := But.of_below (Below.refl _ _).drew
          refine wp_region_held_drew (S := SX w6 v) (by kernel_rfl) hS (fun _ => ?_)
          refine wpAnyH_take (i := 0) (v := ?vRc0) rfl (by kernel_rfl) (by kernel_rfl) (by kernel_rfl) (fun _ _ _ h => h) (Or.inl ⟨by rfl, ?hyRc0⟩) hS ?restRc0
          case hyRc0 =>
            intro w hSw
            first | (go_simp; done) | (go_simp; with_reducible rfl)
          try simp only [Act.put, List.setIfInBounds_toArray, List.set_cons_zero, List.set_cons_succ]
          refine wpAnyH_take (i := 1) (v := ?vRc1) rfl (by kernel_rfl) (by kernel_rfl) (by kernel_rfl) (fun _ _ _ h => h) (Or.inl ⟨by rfl, ?hyRc1⟩) hS ?restRc1
          case hyRc1 =>
            intro w hSw
            first | (go_simp; done) | (go_simp; with_reducible rfl)
          try simp only [Act.put, List.setIfInBounds_toArray, List.set_cons_zero, List.set_cons_succ]
          refine wpAnyH_take (i := 4) (v := ?vRc4) rfl (by kernel_rfl) (by kernel_rfl) (by kernel_rfl) (fun _ _ _ h => h) (Or.inl ⟨by rfl, ?hyRc4⟩) hS ?restRc4
          case hyRc4 =>
            intro w hSw
            have k0 := f0 w hSw; have k1 := f1 w hSw; have k2 := f2 w hSw; have k3 := f3 w hSw; have k4 := f4 w hSw; have k5 := lk1 w hSw; have k6 := lk2 w hSw
            first | (go_simp; done) | (go_simp; with_reducible rfl)
          try simp only [Act.put, List.setIfInBounds_toArray, List.set_cons_zero, List.set_cons_succ]
          refine wpAnyH_take (i := 8) (v := ?vRc8) rfl (by kernel_rfl) (by kernel_rfl) (by kernel_rfl) (fun _ _ _ h => h) (Or.inl ⟨by rfl, ?hyRc8⟩) hS ?restRc8
          case hyRc8 =>
            intro w hSw
            first | (go_simp; done) | (go_simp; with_reducible rfl)
          try simp only [Act.put, List.setIfInBounds_toArray, List.set_cons_zero, List.set_cons_succ]
          refine wpAnyH_take (i := 9) (v := ?vRc9) rfl (by kernel_rfl) (by kernel_rfl) (by kernel_rfl) (fun _ _ _ h => h) (Or.inl ⟨by rfl, ?hyRc9⟩) hS ?restRc9
          case hyRc9 =>
            intro w hSw
            first | (go_simp; done) | (go_simp; with_reducible rfl)
          try simp only [Act.put, List.setIfInBounds_toArray, List.set_cons_zero, List.set_cons_succ]
          refine wpAnyH_take (i := 10) (v := ?vRc10) rfl (by kernel_rfl) (by kernel_rfl) (by kernel_rfl) (fun _ _ _ h => h) (Or.inl ⟨by rfl, ?hyRc10⟩) hS ?restRc10
          case hyRc10 =>
            intro w hSw
            have k0 := f0 w hSw; have k1 := f1 w hSw; have k2 := f2 w hSw; have k3 := f3 w hSw; have k4 := f4 w hSw; have k5 := lk1 w hSw; have k6 := lk2 w hSw
            first | (go_simp; done) | (go_simp; with_reducible rfl)
          try simp only [Act.put, List.setIfInBounds_toArray, List.set_cons_zero, List.set_cons_succ]
          refine wpAnyH_take (i := 11) (v := ?vRc11) rfl (by kernel_rfl) (by kernel_rfl) (by kernel_rfl) (fun _ _ _ h => h) (Or.inl ⟨by rfl, ?hyRc11⟩) hS ?restRc11
          case hyRc11 =>
            intro w hSw
            have k0 := f0 w hSw; have k1 := f1 w hSw; have k2 := f2 w hSw; have k3 := f3 w hSw; have k4 := f4 w hSw; have k5 := lk1 w hSw; have k6 := lk2 w hSw
            first | (go_simp; done) | (go_simp; with_reducible rfl)
          try simp only [Act.put, List.setIfInBounds_toArray, List.set_cons_zero, List.set_cons_succ]
          refine wpAnyH_take (i := 13) (v := ?vRc13) rfl (by kernel_rfl) (by kernel_rfl) (by kernel_rfl) (fun _ _ _ h => h) (Or.inl ⟨by rfl, ?hyRc13⟩) hS ?restRc13
          case hyRc13 =>
            intro w hSw
            first | (go_simp; done) | (go_simp; with_reducible rfl)
          try simp only [Act.put, List.setIfInBounds_toArray, List.set_cons_zero, List.set_cons_succ]
          refine wpAnyH_take (i := 14) (v := ?vRc14) rfl (by kernel_rfl) (by kernel_rfl) (by kernel_rfl) (fun _ _ _ h => h) (Or.inl ⟨by rfl, ?hyRc14⟩) hS ?restRc14
          case hyRc14 =>
            intro w hSw
            first | (go_simp; done) | (go_simp; with_reducible rfl)
          try simp only [Act.put, List.setIfInBounds_toArray, List.set_cons_zero, List.set_cons_succ]
          refine wpAnyH_take (i := 15) (v := ?vRc15) rfl (by kernel_rfl) (by kernel_rfl) (by kernel_rfl) (fun _ _ _ h => h) (Or.inl ⟨by rfl, ?hyRc15⟩) hS ?restRc15
          case hyRc15 =>
            intro w hSw
            have k0 := f0 w hSw; have k1 := f1 w hSw; have k2 := f2 w hSw; have k3 := f3 w hSw; have k4 := f4 w hSw; have k5 := lk1 w hSw; have k6 := lk2 w hSw
            first | (go_simp; done) | (go_simp; with_reducible rfl)
          try simp only [Act.put, List.setIfInBounds_toArray, List.set_cons_zero, List.set_cons_succ]
          refine wpAnyH_take (i := 16) (v := ?vRc16) rfl (by kernel_rfl) (by kernel_rfl) (by kernel_rfl) (fun _ _ _ h => h) (Or.inl ⟨by rfl, ?hyRc16⟩) hS ?restRc16
          case hyRc16 =>
            intro w hSw
            have k0 := f0 w hSw; have k1 := f1 w hSw; have k2 := f2 w hSw; have k3 := f3 w hSw; have k4 := f4 w hSw; have k5 := lk1 w hSw; have k6 := lk2 w hSw
            first | (go_simp; done) | (go_simp; with_reducible rfl)
          try simp only [Act.put, List.setIfInBounds_toArray, List.set_cons_zero, List.set_cons_succ]
          refine wpAnyH_take (i := 18) (v := ?vRc18) rfl (by kernel_rfl) (by kernel_rfl) (by kernel_rfl) (fun _ _ _ h => h) (Or.inl ⟨by rfl, ?hyRc18⟩) hS ?restRc18
          case hyRc18 =>
            intro w hSw
            first | (go_simp; done) | (go_simp; with_reducible rfl)
          try simp only [Act.put, List.setIfInBounds_toArray, List.set_cons_zero, List.set_cons_succ]
          refine wpAnyH_take (i := 19) (v := ?vRc19) rfl (by kernel_rfl) (by kernel_rfl) (by kernel_rfl) (fun _ _ _ h => h) (Or.inl ⟨by rfl, ?hyRc19⟩) hS ?restRc19
          case hyRc19 =>
            intro w hSw
            have k0 := f0 w hSw; have k1 := f1 w hSw; have k2 := f2 w hSw; have k3 := f3 w hSw; have k4 := f4 w hSw; have k5 := lk1 w hSw; have k6 := lk2 w hSw
            first | (go_simp; done) | (go_simp; with_reducible rfl)
          try simp only [Act.put, List.setIfInBounds_toArray, List.set_cons_zero, List.set_cons_succ]
          refine wpAnyH_ready (rs := [2]) (by kernel_rfl) (by simp) ?_
          refine AllReadyH.cons rfl (fun K hK => ?_) AllReadyH.nil
          go_simp
          go_wp2_with ((go_at_call 52; refine (KD.out _).mono ?_; rintro e w' ⟨rfl, rfl⟩))
          refine hK.out _ _ hS (fun _ => ?_)
          clear hK K
          refine wpAnyH_take (i := 3) (v := ?vRc3) rfl (by kernel_rfl) (by kernel_rfl) (by kernel_rfl) (fun _ _ _ h => h) (Or.inl ⟨by rfl, ?hyRc3⟩) hS ?restRc3
          case hyRc3 =>
            intro w hSw
            have kadd := hadd w
            first | (go_simp; done) | (go_simp; with_reducible rfl)
          try simp only [Act.put, List.setIfInBounds_toArray, List.set_cons_zero, List.set_cons_succ]
          refine wpAnyH_ready (rs := [5]) (by kernel_rfl) (by simp) ?_
          refine AllReadyH.cons rfl (fun K hK => ?_) AllReadyH.nil
          go_simp
          go_wp2_with ((go_at_call 65; refine (K1.out _).mono ?_; rintro e w' ⟨rfl, hb'⟩; have hO := hO.more hb'; have hS := hS.on hb'))
          refine hK.out _ _ hS (fun _ => ?_)
          clear hK K
          refine wpAnyH_take (i := 6) (v := ?vRc6) rfl (by kernel_rfl) (by kernel_rfl) (by kernel_rfl) (fun _ _ _ h => h) (Or.inl ⟨by rfl, ?hyRc6⟩) hS ?restRc6
          case hyRc6 =>
            intro w hSw
            first | (go_simp; done) | (go_simp; with_reducible rfl)
          try simp only [Act.put, List.setIfInBounds_toArray, List.set_cons_zero, List.set_cons_succ]
          refine wpAnyH_ready (rs := [7]) (by kernel_rfl) (by simp) ?_
          refine AllReadyH.cons rfl (fun K hK => ?_) AllReadyH.nil
          go_simp
          go_wp2_with ((go_at_call 47; refine (KW0.out _).mono ?_; rintro e w' ⟨rfl, rfl⟩))
          refine hK.out _ _ hS (fun _ => ?_)
          clear hK K
          refine wpAnyH_ready (rs := [12]) (by kernel_rfl) (by simp) ?_
          refine AllReadyH.cons rfl (fun K hK => ?_) AllReadyH.nil
          go_simp
          go_wp2_with ((go_at_call 47; refine (KW1.out _).mono ?_; rintro e w' ⟨rfl, rfl⟩))
          refine hK.out _ _ hS (fun _ => ?_)
          clear hK K
          refine wpAnyH_ready (rs := [17]) (by kernel_rfl) (by simp) ?_
          refine AllReadyH.cons rfl (fun K hK => ?_) AllReadyH.nil
          go_simp
          go_wp2_with ((go_at_call 47; refine (KW2.out _).mono ?_; rintro e w' ⟨rfl, rfl⟩))
          refine hK.out _ _ hS (fun _ => ?_)
          clear hK K
          refine wpAnyH_ready (rs := [20]) (by kernel_rfl) (by simp) ?_
          refine AllReadyH.cons rfl (fun K hK => ?_) AllReadyH.nil
          go_simp
          go_wp2_with ((go_at_call 66; refine (KZ.out _ hS).mono ?_; rintro e w' ⟨rfl, hb'⟩; have hO := hO.more hb'; have hS := hS.on hb'))
          refine hK.out _ _ hS (fun _ => ?_)
          clear hK K
          refine wpAnyH_ready (rs := [21]) (by kernel_rfl) (by simp) ?_
          refine AllReadyH.cons rfl (fun K hK => ?_) AllReadyH.nil
          go_simp
          have hNv : v.ownBlock ≠ some w'.heap.size := fun h => Nat.lt_irrefl _ (hO.low h).2
          have hO := hO.alloc (.cells #[.int .i64 x0, .int .i64 x1, .int .i64 x2, .int .i64 ez] errT)
          have hS := hS.on (bel_alloc _ (.cells #[.int .i64 x0, .int .i64 x1, .int .i64 x2, .int .i64 ez] errT))
          refine hK.out _ _ hS (fun _ => ?_)
          clear hK K
          refine wpAnyH_ready (rs := [22]) (by kernel_rfl) (by simp) ?_
          refine AllReadyH.cons rfl (fun K hK => ?_) AllReadyH.nil
          go_simp
          go_wp2_with ((go_at_call 46; refine (fadd_any _ v _ _ w'.heap.size 4 4 [x0, x1, x2, ez] _ hO rfl (by omega) (errs_new w' _ rfl) hNv HFL.out).mono ?_; rintro e w8 ⟨v8, rfl, hO8, hC8⟩; have hS := hS.trans hC8.but (fun _ _ h => h)))
          refine hK.out _ _ hS (fun _ => ?_)
          clear hK K
          refine wpAnyH_take (i := 23) (v := ?vRc23) rfl (by kernel_rfl) (by kernel_rfl) (by kernel_rfl) (fun _ _ _ h => h) (Or.inl ⟨by rfl, ?hyRc23⟩) hS ?restRc23
          case hyRc23 =>
            intro w hSw
            first | (go_simp; done) | (go_simp; with_reducible rfl)
          try simp only [Act.put, List.setIfInBounds_toArray, List.set_cons_zero, List.set_cons_succ]
          refine wpAnyH_done (by kernel_rfl) ?_ _
          have x0 := f0 _ hS
          have hm9 := SX.map MM1.out hv1 hS
          go_wp2_with (at_mapUpdate; refine wpList_put rfl _ _ _ 104 rfl strK str_inj Tryd.underlying104 rfl hm9 (by unfold maxLen; omega) a.code _ rfl (str_key a.code s1) ?_; intro w9 hm9 hg9; refine Hid.out ?_)
          have hb8 : Below w.heap.size w w8 := HB6.out.trans (hS.below HB6.out.size (fun k hk hv => by have := (HO6.out.low hv).1; omega))
          have hb9 : Below w.heap.size w w9 := hb8.grown hg9 hb8.size (fun k hk => by cases hk; exact Nat.le_refl _)
          have HX : Hid (FOwn (w.heap.size + 1 + 1 + 1) w9 v8 (airF l (k + 1)) ∧ MapS w9 w.heap.size (n1 + 1) (gC (l.take (k + 1))) ∧ MapS w9 (w.heap.size + 1) n2 (gL (l.take (k + 1))) ∧ MapS w9 (w.heap.size + 1 + 1) (n3 + 1) (gV (l.take (k + 1))) ∧ Below w.heap.size w w9) := Lib.hid ⟨by
              rw [HF.out, HEq.out]
              exact hO8.grown hg9 (.inl (fun e => by have := (hO8.low e.symm).1; omega)), by rw [HT.out, ← gC_put]; exact hm9, (SX.map MM2.out hv2 hS).grown hg9 (fun e => h12 (Option.some.inj e).symm), (SX.map MM3.out hv3 hS).grown hg9 (fun e => h13 (Option.some.inj e).symm), hb9⟩
          clear hm9 hg9 hb9 hb8 hO8 hC8 hS hO
          refine Lib.hid ?_
          go_wp2
          go_roundw
          case rel => exact ⟨_, k + 1, n1 + 1, n2, (n3 + 1), rfl, by omega, by go_num, by omega, by omega, by omega, HX⟩
          case measure => simp [intOf]; omega
    · have HE : Hid (airF l k = airF l l.length) := Lib.hid (by rw [show k = l.length by omega])
      have HR : Hid (FOwn w.heap.size wr v (airF l l.length) ∧ Below w.heap.size w wr) := Lib.hid ⟨⟨by have := HH.out.1.own; rw [HE.out] at this; exact this.mono (by omega), HH.out.2.2.2.2.size⟩, HH.out.2.2.2.2⟩
      go_wp2
      go_ret
      exact ⟨_, rfl, HR.out⟩

end Go.Proofs.YtjokpfeiganigaaDoor
