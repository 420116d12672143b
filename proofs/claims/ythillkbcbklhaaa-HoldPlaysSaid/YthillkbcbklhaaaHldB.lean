/- Maps whose keys go away; holds in memory; the small questions. -/
import Derived.Test.YthillkbcbklhaaaHldP
import Derived.Maps.OwnSet
namespace Go.Proofs.Ythillkbcbklhaaa
open Go.RowKit Go.Shelf Go.Maps Go.MapKept
open Go.WideElems (Fit rd rg pl rd_key rd_val rg_of rd_mk)
open Go.ChangeMaps (setBlock putKey delKey notKey heap_setBlock_same heap_setBlock_other)
set_option linter.unusedSimpArgs false
set_option linter.unusedVariables false
set_option linter.unusedSectionVars false

theorem rd_h' {P : Program} {k : TypeId} {x : MapEntry} {l : Lit} (h : keyOf P k x.key = some l) : rd P k Rh x = some (l, .held x.val) := by
  unfold rd
  rw [h]
  rfl
theorem rd_h {P : Program} {k : TypeId} {x : MapEntry} {l : Lit} (h : keyOf P k x.key = some l) : rg P k Rh x = (l, .held x.val) := rg_of (rd_h' h)
section
variable {κ : Type} [DecidableEq κ] {P : Program} {k t e : TypeId} {en : κ → Value} {w w' : World} {b n : Nat} {g : κ → Option Value}
theorem MapK.look (h : MapK P k en w b n g) (K : Keyed P k) (ht : P.underlying t = some (.map k e)) {z : Value} (hz : (zeroValue e).run P w = .ok z w) {c : κ} {kl : Lit} (hkey : keyOf P k (en c) = some kl) (ok : Bool) :
    (Instr.lookup t (.map (some b)) (en c) ok).run P w = .ok (if ok then .tuple #[(g c).getD z, .bool (g c).isSome] else (g c).getD z) w := by
  obtain ⟨es, clock, hb, F, _, hg⟩ := h
  rcases Maps.fit_look ok K ht hz hb F hkey with ⟨hrun, hno, _⟩ | ⟨e0, y, hm, he, hrun, _⟩
  · have hn : g c = none := by
      cases hc : g c with
      | none => rfl
      | some v =>
        obtain ⟨x, hx, hxe, _⟩ := (hg c v).1 hc
        exact absurd hxe (hno x hx)
    rw [hrun, hn]
    rfl
  · have hs : g c = some e0.val := (hg c _).2 ⟨e0, hm, he, rfl⟩
    rw [hrun, hs]
    rfl
theorem MapK.store (h : MapK P k en w b n g) (K : Keyed P k) (hen : ∀ c c', en c = en c' → c = c') (ht : P.underlying t = some (.map k e)) (hn : n < maxLen) {c : κ} {kl : Lit} (hkey : keyOf P k (en c) = some kl) (val : Value) :
    ∃ w', (Instr.mapUpdate t (.map (some b)) (en c) val).run P w = .ok () w' ∧ MapK P k en w' b (n + 1) (fun c' => if c' = c then some val else g c') ∧ w.grownBy w' (some b) := by
  obtain ⟨es, clock, hb, F, hs, hg⟩ := h
  obtain ⟨es', clock', hrun, F', hput, _, _, hmem⟩ := Maps.fit_store (R' := Rh) K ht hb F (Nat.lt_of_le_of_lt hs hn) (fun _ _ _ _ hz => hz) hkey (show Rh val = some (.held val, []) from rfl)
  refine ⟨_, hrun, ⟨es', clock', heap_setBlock_same hb _, F', ?_, fun c' v => ?_⟩, ⟨rfl, rfl, rfl, by simp [setBlock], fun i _ hi => heap_setBlock_other hb _ (fun e => hi (by rw [e]))⟩⟩
  · have e1 : es'.size = ((es'.toList.map (rg P k Rh)).foldr DataW.insert []).length := by rw [length_sorted]; simp
    rw [e1, hput]
    unfold putKey
    rw [length_insert]
    have e2 := List.length_filter_le (notKey kl) ((es.toList.map (rg P k Rh)).foldr DataW.insert [])
    rw [length_sorted] at e2
    simp at e2
    omega
  · -- who stands among the new entries
    have back : ∀ x, x ∈ es.toList → x.key ≠ en c → ∃ x' ∈ es'.toList, x'.key = x.key ∧ x'.val = x.val := by
      intro x hx hne
      obtain ⟨y, hy⟩ := F.reads x hx
      have hk := rd_key hy
      have h1 : rg P k Rh x ∈ (es'.toList.map (rg P k Rh)).foldr DataW.insert [] := by
        rw [hput]
        unfold putKey
        refine ChangeMaps.mem_insert_iff.2 (.inr (List.mem_filter.2 ⟨(WideShapes.sorted_perm _).mem_iff.2 (List.mem_map.2 ⟨x, hx, rfl⟩), ?_⟩))
        refine (notKey_iff (K.key hkey)).2 fun e1 => hne ?_
        rw [rd_h hk] at e1
        dsimp only at e1
        rw [e1] at hk
        exact K.inj hk hkey
      obtain ⟨x', hx', he'⟩ := List.mem_map.1 ((WideShapes.sorted_perm _).mem_iff.1 h1)
      obtain ⟨y', hy'⟩ := F'.reads x' hx'
      have hk' := rd_key hy'
      rw [rd_h hk, rd_h hk'] at he'
      simp only [Prod.mk.injEq, DataW.held.injEq] at he'
      refine ⟨x', hx', ?_, he'.2⟩
      rw [he'.1] at hk'
      exact K.inj hk' hk
    have new : ∃ x' ∈ es'.toList, x'.key = en c ∧ x'.val = val := by
      have h1 : ((kl, .held val) : Lit × DataW Value) ∈ (es'.toList.map (rg P k Rh)).foldr DataW.insert [] := by
        rw [hput]
        unfold putKey
        exact ChangeMaps.mem_insert_iff.2 (.inl rfl)
      obtain ⟨x', hx', he'⟩ := List.mem_map.1 ((WideShapes.sorted_perm _).mem_iff.1 h1)
      obtain ⟨y', hy'⟩ := F'.reads x' hx'
      have hk' := rd_key hy'
      rw [rd_h hk'] at he'
      simp only [Prod.mk.injEq, DataW.held.injEq] at he'
      refine ⟨x', hx', ?_, he'.2⟩
      rw [he'.1] at hk'
      exact K.inj hk' hkey
    have once : ∀ x ∈ es'.toList, ∀ x' ∈ es'.toList, x.key = x'.key → x.val = x'.val := by
      intro x hx x' hx' hxx
      have hn := ((stamped_iff es' clock').1 F'.stamped).2.2
      apply Classical.byContradiction
      intro hv
      have hne : x ≠ x' := fun e => hv (by rw [e])
      have := List.pairwise_iff_getElem.1 hn
      obtain ⟨i, hi, rfl⟩ := List.getElem_of_mem hx
      obtain ⟨j, hj, rfl⟩ := List.getElem_of_mem hx'
      rcases Nat.lt_trichotomy i j with h | h | h
      · exact this i j hi hj h hxx
      · subst h; exact hne rfl
      · exact this j i hj hi h hxx.symm
    by_cases hc : c' = c
    · subst hc
      show (if c' = c' then some val else g c') = some v ↔ _
      rw [if_pos rfl]
      obtain ⟨x', h1, h2, h3⟩ := new
      constructor
      · intro h
        cases h
        exact ⟨x', h1, h2, h3⟩
      · rintro ⟨x, hx, hxe, rfl⟩
        rw [once x hx x' h1 (hxe.trans h2.symm), h3]
    · show (if c' = c then some val else g c') = some v ↔ _
      rw [if_neg hc, hg]
      constructor
      · rintro ⟨x, hx, hxe, rfl⟩
        obtain ⟨x', h1, h2, h3⟩ := back x hx (fun e => hc (hen _ _ (hxe.symm.trans e)))
        exact ⟨x', h1, h2.trans hxe, h3⟩
      · rintro ⟨x, hx, hxe, rfl⟩
        rcases hmem x hx with ⟨h1, _⟩ | ⟨h1, _⟩
        · exact ⟨x, h1, hxe, rfl⟩
        · exact absurd (hen _ _ (hxe.symm.trans h1)) hc
/-- 'm[k] = v' at the operation -/
theorem wpList_put {ops : Array Oper} {rest : List Oper} {o : Oper} {a : Act} {Q : Exit → Act → World → Prop} (hgd : o.guard = none) (m x v : Operand) (t : TypeId) (hop : o.op = Op.mapUpdate t m x v)
    (K : Keyed P k) (hen : ∀ c c', en c = en c' → c = c') (ht : P.underlying t = some (.map k e)) (hm : a.eval m = .map (some b)) (h : MapK P k en w b n g) (hn : n < maxLen) (c : κ) (kl : Lit) (hx : a.eval x = en c) (hkey : keyOf P k (en c) = some kl)
    (hK : ∀ w', MapK P k en w' b (n + 1) (fun c' => if c' = c then some (a.eval v) else g c') → w.grownBy w' (some b) → wpList P ops Q rest (a.put o.dst undef) w') : wpList P ops Q (o :: rest) a w := by
  refine wpList_plain hgd fun K' hK' => ?_
  obtain ⟨w', hrun, r1, r2⟩ := h.store (val := a.eval v) K hen ht hn hkey
  unfold Oper.wp
  simp [execOp, hop, hm, hx, hrun, Result.andThen]
  exact hK' _ _ (hK w' r1 r2)
/-- 'delete(m, k)' -/
theorem MapK.drop (h : MapK P k en w b n g) (K : Keyed P k) (hen : ∀ c c', en c = en c' → c = c') (ht : P.underlying t = some (.map k e)) {c : κ} {kl : Lit} (hkey : keyOf P k (en c) = some kl) (ty : TypeId) :
    ∃ w', (Builtin.delete_ #[t, k] ty #[.map (some b), en c]).run P w = .ok (.tuple #[]) w' ∧ MapK P k en w' b n (fun c' => if c' = c then none else g c') ∧ w.grownBy w' (some b) := by
  obtain ⟨es, clock, hb, F, hs, hg⟩ := h
  obtain ⟨es', hrun, F', hle, hdel, _⟩ := Maps.fit_drop (ty := ty) K ht hb F hkey
  refine ⟨_, hrun, ⟨es', clock, heap_setBlock_same hb _, F', Nat.le_trans hle hs, fun c' v => ?_⟩, ⟨rfl, rfl, rfl, by simp [setBlock], fun i _ hi => heap_setBlock_other hb _ (fun e => hi (by rw [e]))⟩⟩
  -- who stands among the entries that are left
  have back : ∀ x, x ∈ es.toList → x.key ≠ en c → ∃ x' ∈ es'.toList, x'.key = x.key ∧ x'.val = x.val := by
    intro x hx hne
    obtain ⟨y, hy⟩ := F.reads x hx
    have hk := rd_key hy
    have h1 : rg P k Rh x ∈ (es'.toList.map (rg P k Rh)).foldr DataW.insert [] := by
      rw [hdel]
      unfold delKey
      refine List.mem_filter.2 ⟨(WideShapes.sorted_perm _).mem_iff.2 (List.mem_map.2 ⟨x, hx, rfl⟩), ?_⟩
      refine (notKey_iff (K.key hkey)).2 fun e1 => hne ?_
      rw [rd_h hk] at e1
      dsimp only at e1
      rw [e1] at hk
      exact K.inj hk hkey
    obtain ⟨x', hx', he'⟩ := List.mem_map.1 ((WideShapes.sorted_perm _).mem_iff.1 h1)
    obtain ⟨y', hy'⟩ := F'.reads x' hx'
    have hk' := rd_key hy'
    rw [rd_h hk, rd_h hk'] at he'
    simp only [Prod.mk.injEq, DataW.held.injEq] at he'
    refine ⟨x', hx', ?_, he'.2⟩
    rw [he'.1] at hk'
    exact K.inj hk' hk
  have fwd : ∀ x', x' ∈ es'.toList → x'.key ≠ en c ∧ ∃ x ∈ es.toList, x.key = x'.key ∧ x.val = x'.val := by
    intro x' hx'
    obtain ⟨y', hy'⟩ := F'.reads x' hx'
    have hk' := rd_key hy'
    have h1 : rg P k Rh x' ∈ delKey kl ((es.toList.map (rg P k Rh)).foldr DataW.insert []) := by
      rw [← hdel]
      exact (WideShapes.sorted_perm _).mem_iff.2 (List.mem_map.2 ⟨x', hx', rfl⟩)
    unfold delKey at h1
    obtain ⟨h1, h2⟩ := List.mem_filter.1 h1
    have h3 := (notKey_iff (K.key hkey)).1 h2
    obtain ⟨x, hx, he⟩ := List.mem_map.1 ((WideShapes.sorted_perm _).mem_iff.1 h1)
    obtain ⟨y, hy⟩ := F.reads x hx
    have hk := rd_key hy
    rw [rd_h hk, rd_h hk'] at he
    simp only [Prod.mk.injEq, DataW.held.injEq] at he
    refine ⟨fun e1 => h3 ?_, x, hx, ?_, he.2⟩
    · rw [rd_h hk']
      rw [e1, hkey] at hk'
      exact (Option.some.inj hk').symm
    · rw [he.1] at hk
      exact K.inj hk hk'
  by_cases hc : c' = c
  · subst hc
    show (if c' = c' then none else g c') = some v ↔ _
    rw [if_pos rfl]
    constructor
    · intro h; cases h
    · rintro ⟨x', h1, h2, _⟩
      exact absurd h2 (fwd x' h1).1
  · show (if c' = c then none else g c') = some v ↔ _
    rw [if_neg hc, hg]
    constructor
    · rintro ⟨x, hx, hxe, rfl⟩
      obtain ⟨x', h1, h2, h3⟩ := back x hx (fun e => hc (hen _ _ (hxe.symm.trans e)))
      exact ⟨x', h1, h2.trans hxe, h3⟩
    · rintro ⟨x', hx', hxe, rfl⟩
      obtain ⟨_, x, h1, h2, h3⟩ := fwd x' hx'
      exact ⟨x, h1, h2.trans hxe, h3⟩
/-- 'delete(m, k)' at the operation -/
theorem wpList_drop {ops : Array Oper} {rest : List Oper} {o : Oper} {a : Act} {Q : Exit → Act → World → Prop} (hgd : o.guard = none) (m x : Operand) (hop : o.op = Op.call { callee := Callee.builtin Builtin.delete, args := #[m, x], argTypes := #[t, k] })
    (K : Keyed P k) (hen : ∀ c c', en c = en c' → c = c') (ht : P.underlying t = some (.map k e)) (hm : a.eval m = .map (some b)) (h : MapK P k en w b n g) (c : κ) (kl : Lit) (hx : a.eval x = en c) (hkey : keyOf P k (en c) = some kl)
    (hK : ∀ w', MapK P k en w' b n (fun c' => if c' = c then none else g c') → w.grownBy w' (some b) → wpList P ops Q rest (a.put o.dst (.tuple #[])) w') : wpList P ops Q (o :: rest) a w := by
  refine wpList_plain hgd fun K' hK' => ?_
  obtain ⟨w', hrun, r1, r2⟩ := h.drop K hen ht hkey o.type
  unfold Oper.wp
  simp [execOp, hop, resolve, invoke, builtin, hm, hx, hrun, Result.andThen]
  exact hK' _ _ (hK w' r1 r2)
end

/-! ### the maps of this program -/
theorem intK : Keyed Try.prog 3 := int_keyed Try.underlying3
def enI (i : Int) : Value := .int .i64 i
theorem enI_inj (a b : Int) (h : enI a = enI b) : a = b := by unfold enI at h; simpa using h
theorem key_int (d : Int) (h : -9223372036854775808 ≤ d ∧ d ≤ 9223372036854775807) : keyOf Try.prog 3 (enI d) = some (.int .i64 d) := keyOf_int_mk Try.underlying3 (WalkArith.wf_i64 h)
abbrev hmT : TypeId := 56
abbrev hsT : TypeId := 58
abbrev lbT : TypeId := 80
abbrev zH : Value := .agg #[.int .i64 0, .slice none 0 0, .string noB, .int .i64 0, .int .i64 0]
theorem zeroH (w : World) : (zeroValue hdT).run Try.prog w = .ok zH w := by kernel_rfl
theorem zeroBo (w : World) : (zeroValue 4).run Try.prog w = .ok (.bool false) w := by kernel_rfl
theorem mk_hint {P : Program} {t k e : TypeId} (hu : P.underlying t = some (.map k e)) (n : Int) (w : World) : (Instr.makeMap t (some (.int .i64 n))).run P w = .ok (.map (some w.heap.size)) (w.alloc (.map #[] 0)) := by
  simp [Instr.makeMap, run_underlying hu, asInt, asIntOf, Result.andThen]
abbrev MapI (w : World) (b n : Nat) (g : Int → Option Value) : Prop := MapK Try.prog 3 enI w b n g
abbrev MapD (w : World) (b n : Nat) (g : Lid → Option Value) : Prop := MapK Try.prog lidT aggD w b n g
/-! ### holds in memory: block mb is the map, block B the struct -/
structure HldAt (w : World) (B mb n : Nat) (hs : List Hd) : Prop where
  box : w.cell? ⟨B, 0, none⟩ = some (.map (some mb))
  map : MapI w mb n (gH hs)
  srt : SrtH hs
  ok : ∀ h ∈ hs, OkH h ∧ RowIn (fun k => k ≠ mb) 4 encD w h.A h.l ∧ rgtH h = true
theorem nomap_cell' {w : World} {a : Addr} {x : Value} {κ : Type} [DecidableEq κ] {k : TypeId} {en : κ → Value} {b n : Nat} {g : κ → Option Value} (hc : w.cell? a = some x) (hm : MapK Try.prog k en w b n g) : a.block ≠ b := by
  obtain ⟨es, cl, h, _⟩ := hm
  intro e
  unfold World.cell? at hc
  rw [e, h] at hc
  cases hc
theorem HldAt.hB {w : World} {B mb n : Nat} {hs : List Hd} (h : HldAt w B mb n hs) : B ≠ mb := nomap_cell' h.box h.map
theorem HldAt.more {w w' : World} {B mb n : Nat} {hs : List Hd} (h : HldAt w B mb n hs) (hb : Below w.heap.size w w') : HldAt w' B mb n hs :=
  ⟨bel_cell hb h.box, h.map.more hb, h.srt, fun x hx => ⟨(h.ok x hx).1, (h.ok x hx).2.1.more hb, (h.ok x hx).2.2⟩⟩
theorem HldAt.drew {w : World} {B mb n : Nat} {hs : List Hd} (h : HldAt w B mb n hs) : HldAt w.drew B mb n hs := h.more (Below.refl _ _).drew
/-- a set that New did not return -/
def VoidH (w : World) (p : Option Addr) : Prop := p = none ∨ ∃ B, p = some ⟨B, 0, none⟩ ∧ w.cell? ⟨B, 0, none⟩ = some (.map none)
theorem VoidH.more {w w' : World} {p : Option Addr} (h : VoidH w p) (hb : Below w.heap.size w w') : VoidH w' p := by
  rcases h with h | ⟨B, e, h⟩
  · exact .inl h
  · exact .inr ⟨B, e, bel_cell hb h⟩
theorem nilM_no (m : Nat) (w : World) : (binOp .eql hmT (.map (some m)) (.map none)).run Try.prog w = .ok (.bool false) w := by kernel_rfl
theorem nilM_yes (w : World) : (binOp .eql hmT (.map none) (.map none)).run Try.prog w = .ok (.bool true) w := by kernel_rfl
set_option maxRecDepth 100000 in
set_option maxHeartbeats 400000 in
theorem isVoid_no (B m : Nat) (w : World) (h : w.cell? ⟨B, 0, none⟩ = some (.map (some m))) : Calls Try.prog 25 #[.pointer (some ⟨B, 0, none⟩)] w fun e w' => e = .returned (.bool false) ∧ w' = w := by
  have hn := nilM_no m
  go_enter Try.func25, Try.ntmps25
  go_wp2
  go_ret
  exact ⟨rfl, rfl⟩
set_option maxRecDepth 100000 in
set_option maxHeartbeats 400000 in
theorem isVoid_yes (p : Option Addr) (w : World) (h : VoidH w p) : Calls Try.prog 25 #[.pointer p] w fun e w' => e = .returned (.bool true) ∧ w' = w := by
  rcases h with rfl | ⟨B, rfl, h⟩
  · have hn := nilM_yes
    go_enter Try.func25, Try.ntmps25
    go_wp2
    go_ret
    exact ⟨rfl, rfl⟩
  · have hn := nilM_yes
    go_enter Try.func25, Try.ntmps25
    go_wp2
    go_ret
    exact ⟨rfl, rfl⟩
set_option maxRecDepth 100000 in
set_option maxHeartbeats 1000000 in
theorem isTime_any (m : Int) (w : World) : Calls Try.prog 32 #[.int .i64 m] w fun e w' => e = .returned (.bool (timB m)) ∧ w' = w := by
  unfold timB
  by_cases h1 : 0 ≤ m
  · by_cases h2 : m < 52596000
    · have HR : Hid ((decide (0 ≤ m) && decide (m < 52596000)) = true) := Lib.hid (by simp [h1, h2])
      rw [HR.out]
      go_enter Try.func32, Try.ntmps32
      go_wp2
      go_ret
      exact ⟨rfl, rfl⟩
    · have HR : Hid ((decide (0 ≤ m) && decide (m < 52596000)) = false) := Lib.hid (by simp [h1, h2])
      rw [HR.out]
      go_enter Try.func32, Try.ntmps32
      go_wp2
      go_ret
      exact ⟨rfl, rfl⟩
  · have HR : Hid ((decide (0 ≤ m) && decide (m < 52596000)) = false) := Lib.hid (by simp [h1])
    rw [HR.out]
    go_enter Try.func32, Try.ntmps32
    go_wp2
    go_ret
    exact ⟨rfl, rfl⟩
/-- the legs that were seen -/
def gT (xs : List Lid) (c : Lid) : Option Value := if c ∈ xs then some (.bool true) else none
theorem gT_put (xs : List Lid) (x : Lid) : (fun c => if c = x then some (Value.bool true) else gT xs c) = gT (xs ++ [x]) := by
  funext c
  unfold gT
  by_cases e : c = x
  · subst e; simp
  · simp [e]
theorem gT_get (xs : List Lid) (x : Lid) : (gT xs x).getD (.bool false) = .bool (decide (x ∈ xs)) := by
  unfold gT
  by_cases e : x ∈ xs <;> simp [e]
theorem twi_first {l : List Lid} {k : Nat} {x : Lid} (hx : l[k]? = some x) (hm : x ∈ l.take k) : twiP l = true := by
  rw [twi_iff]
  intro hn
  obtain ⟨j, hj, e⟩ := List.getElem_of_mem hm
  rw [List.length_take] at hj
  rw [List.getElem_take] at e
  rw [List.nodup_iff_pairwise_ne, List.pairwise_iff_getElem] at hn
  obtain ⟨h1, h2⟩ := List.getElem?_eq_some_iff.1 hx
  exact hn j k (by omega) h1 (by omega) (e.trans h2.symm)
theorem twi_none {l : List Lid} (h : ∀ (k : Nat) (x : Lid), l[k]? = some x → x ∉ l.take k) : twiP l = false := by
  cases e : twiP l with
  | false => rfl
  | true =>
    refine absurd ?_ ((twi_iff l).1 e)
    rw [List.nodup_iff_pairwise_ne, List.pairwise_iff_getElem]
    intro i j hi hj hij e2
    refine h j _ (List.getElem?_eq_getElem hj) ?_
    rw [← e2, List.mem_iff_getElem]
    exact ⟨i, by rw [List.length_take]; omega, by rw [List.getElem_take]⟩
set_option maxRecDepth 100000 in
set_option maxHeartbeats 4000000 in
theorem hasTwice_any (A : Option Addr) (c : Nat) (is : List Lid) (w : World) (hl : is.length ≤ 1000) (hok : ∀ i ∈ is, OkD i) (hL : LidL w (.slice A is.length c) is) :
    Calls Try.prog 35 #[.slice A is.length c] w fun e w' => e = .returned (.bool (twiP is)) ∧ Below w.heap.size w w' := by
  have hmk := mk_hint Try.underlying80 (is.length : Int) w
  have H1 : Hid (∀ k x, is[k]? = some x → x ∈ is.take k → twiP is = true) := Lib.hid (fun k x h => twi_first h)
  have H2 : Hid ((∀ (k : Nat) (x : Lid), is[k]? = some x → x ∉ is.take k) → twiP is = false) := Lib.hid twi_none
  have HOK := Lib.hid hok
  have HL := Lib.hid hL
  have hm0 : MapD (w.alloc (.map #[] 0)) w.heap.size 0 (gT (is.take 0)) := by
    have e : gT (is.take 0) = fun _ => none := by funext c; unfold gT; simp
    rw [e]
    exact MapK.made w Try.prog lidT aggD
  have HM0 := Lib.hid hm0
  have HB0 := Lib.hid (bel_alloc w (.map #[] 0))
  have HLN := Lib.hid hl
  generalize twiP is = T at *
  clear hok hL hm0 hl
  obtain ⟨mb, hmb⟩ : ∃ mb, mb = w.heap.size := ⟨_, rfl⟩
  rw [← hmb] at hmk HM0
  have HMB := Lib.hid hmb
  clear hmb
  go_enter Try.func35, Try.ntmps35
  go_wp2
  go_loopw [11] (fun vi wr => ∃ k : Nat, k ≤ is.length ∧ vi = .int .i64 k ∧ Hid (∀ (j : Nat) (x : Lid), j < k → is[j]? = some x → x ∉ is.take j) ∧ Hid (MapD wr mb k (gT (is.take k)) ∧ Below w.heap.size w wr)) (fun vi _ => is.length - (intOf vi).toNat)
  case atStart => exact ⟨0, Nat.zero_le _, rfl, Lib.hid (fun j x hj => absurd hj (Nat.not_lt_zero _)), Lib.hid ⟨HM0.out, HB0.out⟩⟩
  case round =>
    obtain ⟨k, hk, rfl, HK, HI⟩ := hrel
    clear hmk
    by_cases hlt : k < is.length
    · obtain ⟨x, hx⟩ : ∃ x, is[k]? = some x := ⟨_, List.getElem?_eq_getElem hlt⟩
      obtain ⟨b, o, rfl, _, hc⟩ := row_get (RowL.more HL.out HI.out.2) hx
      have x0 := hc 0 _ rfl
      have x1 := hc 1 _ rfl
      have x2 := hc 2 _ rfl
      have x3 := hc 3 _ rfl
      rw [Nat.add_zero] at x0
      have i1 : (0 : Int) ≤ (k : Int) := by omega
      have i2 : (k : Int) < (is.length : Int) := by omega
      have hk8 : k < 1000 := by have := HLN.out; omega
      have w1 : IntKind.i64.wrap ((k : Int) + 1) = (k : Int) + 1 := IntWalk.i64_in _ (by omega)
      obtain ⟨kl, hkl⟩ := key_lid x (HOK.out x (List.mem_of_getElem? hx))
      have hbA := bel_alloc wr (.cells #[.string x.car, .int .i64 x.num, .int .i64 x.day, .string x.frm] lidT)
      have hm1 := HI.out.1.more hbA
      have hlk := (hm1.look lidK Try.underlying80 (zeroBo _) hkl false).trans (by rw [gT_get])
      simp only [Bool.false_eq_true, if_false] at hlk
      obtain ⟨l0, l1, l2, l3⟩ := lid_new wr x
      have HX := Lib.hid hx
      have HKL := Lib.hid hkl
      have HM1 := Lib.hid hm1
      have HBA := Lib.hid hbA
      clear hx hc hkl hm1 hbA
      by_cases hin : x ∈ is.take k
      · have HR := Lib.hid (H1.out k x HX.out hin)
        have ed : decide (x ∈ is.take k) = true := decide_eq_true hin
        rw [ed] at hlk
        clear ed hin
        go_wp2
        go_ret
        exact ⟨by rw [HR.out]; rfl, HI.out.2.trans (HBA.out.mono HI.out.2.size)⟩
      · have HIN := Lib.hid hin
        have ed : decide (x ∈ is.take k) = false := decide_eq_false hin
        rw [ed] at hlk
        clear ed hin
        go_upto_region 7 with fail
        have hm1 := HM1.out
        go_wp2_with (at_mapUpdate; refine wpList_put (en := aggD) rfl _ _ _ lbT rfl lidK aggD_inj Try.underlying80 rfl hm1 (by unfold maxLen; omega) x _ rfl HKL.out ?_; intro w9 hm9 hg9; refine Hid.out ?_)
        have HI2 : Hid (MapD w9 mb (k + 1) (gT (is.take (k + 1))) ∧ Below w.heap.size w w9) := Lib.hid ⟨by
          have e : is.take (k + 1) = is.take k ++ [x] := by rw [List.take_add_one, HX.out]; rfl
          rw [e, ← gT_put]
          exact hm9, (HI.out.2.trans (HBA.out.mono HI.out.2.size)).trans ⟨hg9.os, hg9.tape, hg9.output, hg9.size, fun j hj => hg9.block j (by have := HI.out.2.size; have := HBA.out.size; omega) (fun e => by have := Option.some.inj e; have := HMB.out; omega)⟩⟩
        clear hm9 hg9 hm1
        refine Lib.hid ?_
        go_wp2
        go_roundw
        case rel =>
          refine ⟨k + 1, by omega, by go_num, Lib.hid (fun j y hj hy => ?_), HI2⟩
          by_cases hjk : j = k
          · subst hjk
            rw [HX.out] at hy
            cases hy
            exact HIN.out
          · exact HK.out j y (by omega) hy
        case measure => simp [intOf]; omega
    · have HR := Lib.hid (H2.out (fun j y hy => HK.out j y (by have := (List.getElem?_eq_some_iff.1 hy).1; omega) hy))
      have i2 : ¬ (k : Int) < (is.length : Int) := by omega
      go_wp2
      go_ret
      exact ⟨by rw [HR.out]; rfl, HI.out.2⟩
end Go.Proofs.Ythillkbcbklhaaa
