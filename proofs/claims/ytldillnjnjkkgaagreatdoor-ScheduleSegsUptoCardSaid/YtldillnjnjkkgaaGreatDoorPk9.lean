/- Words and walks that the laws below ask: SchH, SgC, SchC, SchC2, SchC3, SchE. -/
import Derived.Shelf.Abstract
import Derived.Deep.WholeRow
import Derived.Test.YtldillnjnjkkgaaGreatDoorPk6
import Derived.Test.YtldillnjnjkkgaaGreatDoorPk7
import Derived.Test.YtldillnjnjkkgaaGreatDoorPk8
/- A map of maps: what is taken under each name. -/
namespace Go.Proofs.YtldillnjnjkkgaaGreatDoor
open Go.RowKit Go.Shelf Go.Maps
set_option linter.unusedSimpArgs false
set_option linter.unusedVariables false

abbrev nameT : TypeId := 194
theorem rowName : nameT < Tryz.prog.types.size := by decide +kernel
theorem nameK : Keyed Tryz.prog nameT := Keyed.of_law (deep_law_laid laidOutP (m := 2) (by omega) rowName (by kernel_rfl) (by kernel_rfl))
theorem dayK : Keyed Tryz.prog 3 := int_keyed Tryz.underlying3
def enN (c : ByteArray × Int) : Value := .agg #[.string c.1, .int .i64 c.2]
def enI (d : Int) : Value := .int .i64 d
theorem enN_inj (c c' : ByteArray × Int) (h : enN c = enN c') : c = c' := by
  obtain ⟨a, b⟩ := c
  obtain ⟨a', b'⟩ := c'
  simp [enN] at h
  obtain ⟨rfl, rfl⟩ := h
  rfl
theorem enI_inj (c c' : Int) (h : enI c = enI c') : c = c' := by simpa [enI] using h
theorem key_day (d : Int) (h : (Lit.int .i64 d).wf = true) : keyOf Tryz.prog 3 (enI d) = some (.int .i64 d) := keyOf_int_mk Tryz.underlying3 h
theorem key_name (c : ByteArray × Int) (h1 : c.1.size ≤ maxLen) (h2 : (Lit.int .i64 c.2).wf = true) : ∃ kl, keyOf Tryz.prog nameT (enN c) = some kl := by
  have hu := Tryz.underlying194
  have hs := Tryz.underlying9
  have hi := Tryz.underlying3
  have hkt : Tryz.prog.keyType nameT = true := by kernel_rfl
  have hc : Tryz.prog.cellsOf nameT = 2 := by kernel_rfl
  have hc1 : Tryz.prog.cellsOf 9 = 1 := by kernel_rfl
  have hc2 : Tryz.prog.cellsOf 3 = 1 := by kernel_rfl
  obtain ⟨m, hm⟩ : ∃ m, Tryz.prog.types.size = m + 1 := ⟨Tryz.prog.types.size - 1, by decide +kernel⟩
  refine ⟨.string (keyBytes [.string c.1.data.toList, .int .i64 c.2]), ?_⟩
  unfold keyOf enN
  simp only [hu]
  rw [if_pos (by simp [hkt, Value.formed, hu, hc]), hm]
  unfold Program.keyLits
  simp only [hu, Value.cells]
  rw [if_pos (by simp [hc])]
  simp [List.mapM_cons, Program.keyLits, hs, hi, hc1, hc2, h1, h2]

abbrev mapD : TypeId := 195
theorem zeroMD (w : World) : (zeroValue mapD).run Tryz.prog w = .ok (.map none) w := by kernel_rfl
theorem nilM_yes (w : World) : (binOp .eql mapD (.map none) (.map none)).run Tryz.prog w = .ok (.bool true) w := by kernel_rfl
theorem nilM_no (b : Nat) (w : World) : (binOp .eql mapD (.map (some b)) (.map none)).run Tryz.prog w = .ok (.bool false) w := by kernel_rfl
/-- the days that are held -/
def gD (U : Int → Bool) (d : Int) : Option Value := if U d then some (.bool true) else none
theorem gD_get (U : Int → Bool) (d : Int) : (gD U d).getD (.bool false) = .bool (U d) := by
  unfold gD
  cases U d <;> rfl
abbrev MapDy (w : World) (b n : Nat) (U : Int → Bool) : Prop := MapK Tryz.prog 3 enI w b n (gD U)
abbrev MapNm (w : World) (b n : Nat) (g : ByteArray × Int → Option Value) : Prop := MapK Tryz.prog nameT enN w b n g
/-- block b is a map that has at each name a map of the days of which T says true -/
structure TM (w : World) (b lo n : Nat) (g : ByteArray × Int → Option Value) (T : ByteArray × Int → Int → Bool) : Prop where
  map : MapNm w b n g
  hlo : lo ≤ b
  inn : ∀ c v, g c = some v → ∃ b' m, v = .map (some b') ∧ lo ≤ b' ∧ b' ≠ b ∧ m ≤ 800 * n ∧ MapDy w b' m (T c)
  out : ∀ c, g c = none → ∀ d, T c d = false
  inj : ∀ c c' b', g c = some (.map (some b')) → g c' = some (.map (some b')) → c = c'
theorem TM.more {w w' : World} {b lo n : Nat} {g : ByteArray × Int → Option Value} {T : ByteArray × Int → Int → Bool} (h : TM w b lo n g T) (hb : Below w.heap.size w w') : TM w' b lo n g T :=
  ⟨h.map.more hb, h.hlo, fun c v hc => by
    obtain ⟨b', m, e, h1, h2, h3, h4⟩ := h.inn c v hc
    exact ⟨b', m, e, h1, h2, h3, h4.more hb⟩, h.out, h.inj⟩
theorem TM.made (w : World) (lo : Nat) (hlo : lo ≤ w.heap.size) : TM (w.alloc (.map #[] 0)) w.heap.size lo 0 (fun _ => none) (fun _ _ => false) :=
  ⟨MapK.made w _ _ _, hlo, fun c v hc => (by cases hc), fun _ _ _ => rfl, fun c c' b' hc => by cases hc⟩
/-- the same while the days of one name are being added -/
structure TI (w : World) (b lo n : Nat) (g : ByteArray × Int → Option Value) (T : ByteArray × Int → Int → Bool) (c : ByteArray × Int) (B m : Nat) (U : Int → Bool) : Prop where
  map : MapNm w b (n + 1) g
  hlo : lo ≤ b
  here : g c = some (.map (some B))
  hB : lo ≤ B
  hne : B ≠ b
  row : MapDy w B m U
  inn : ∀ c' v, c' ≠ c → g c' = some v → ∃ b' m', v = .map (some b') ∧ lo ≤ b' ∧ b' ≠ b ∧ b' ≠ B ∧ m' ≤ 800 * n ∧ MapDy w b' m' (T c')
  out : ∀ c', c' ≠ c → g c' = none → ∀ d, T c' d = false
  inj : ∀ c c' b', g c = some (.map (some b')) → g c' = some (.map (some b')) → c = c'
theorem TI.more {w w' : World} {b lo n : Nat} {g : ByteArray × Int → Option Value} {T : ByteArray × Int → Int → Bool} {c : ByteArray × Int} {B m : Nat} {U : Int → Bool} (h : TI w b lo n g T c B m U) (hb : Below w.heap.size w w') : TI w' b lo n g T c B m U :=
  ⟨h.map.more hb, h.hlo, h.here, h.hB, h.hne, h.row.more hb, fun c' v hc hv => by
    obtain ⟨b', m', e, h1, h2, h3, h4, h5⟩ := h.inn c' v hc hv
    exact ⟨b', m', e, h1, h2, h3, h4, h5.more hb⟩, h.out, h.inj⟩
theorem MapK.weak {κ : Type} {P : Program} {k : TypeId} {en : κ → Value} {w : World} {b n n' : Nat} {g : κ → Option Value} (h : MapK P k en w b n g) (hn : n ≤ n') : MapK P k en w b n' g := by
  obtain ⟨es, clock, h1, h2, h3, h4⟩ := h
  exact ⟨es, clock, h1, h2, Nat.le_trans h3 hn, h4⟩
/-- the name is there already -/
theorem TM.start {w : World} {b lo n : Nat} {g : ByteArray × Int → Option Value} {T : ByteArray × Int → Int → Bool} (h : TM w b lo n g T) {c : ByteArray × Int} {v : Value} (hc : g c = some v) : ∃ B m, v = .map (some B) ∧ m ≤ 800 * n ∧ TI w b lo n g T c B m (T c) := by
  obtain ⟨B, m, rfl, h1, h2, h3, h4⟩ := h.inn c v hc
  refine ⟨B, m, rfl, h3, h.map.weak (Nat.le_succ _), h.hlo, hc, h1, h2, h4, fun c' v hne hv => ?_, fun c' _ => h.out c', h.inj⟩
  obtain ⟨b', m', rfl, g1, g2, g3, g4⟩ := h.inn c' v hv
  exact ⟨b', m', rfl, g1, g2, fun e => hne (h.inj c' c b' hv (by rw [e]; exact hc)), g3, g4⟩
/-- the name is new: an empty map is made and put -/
theorem TM.fresh {w w' : World} {b lo n : Nat} {g : ByteArray × Int → Option Value} {T : ByteArray × Int → Int → Bool} (h : TM w b lo n g T) {c : ByteArray × Int} (hc : g c = none)
    (hm : MapNm w' b (n + 1) (fun c' => if c' = c then some (.map (some w.heap.size)) else g c')) (hg : (w.alloc (.map #[] 0)).grownBy w' (some b)) (hlo : lo ≤ w.heap.size) : TI w' b lo n (fun c' => if c' = c then some (.map (some w.heap.size)) else g c') T c w.heap.size 0 (T c) := by
  have hbl := h.map.lt
  have hb1 := bel_alloc w (.map #[] 0)
  refine ⟨hm, h.hlo, if_pos rfl, hlo, by omega, ?_, fun c' v hne hv => ?_, fun c' hne hv => ?_, fun c1 c2 b' h1 h2 => ?_⟩
  · have e : gD (T c) = fun _ => none := by funext d; unfold gD; rw [h.out c hc d]; rfl
    show MapK _ _ _ _ _ _ (gD (T c))
    rw [e]
    exact (MapK.made w _ _ _).grown hg (fun e => by have := Option.some.inj e; omega)
  · rw [if_neg hne] at hv
    obtain ⟨b', m', rfl, g1, g2, g3, g4⟩ := h.inn c' v hv
    exact ⟨b', m', rfl, g1, g2, by have := g4.lt; omega, g3, (g4.more hb1).grown hg (fun e => g2 (Option.some.inj e))⟩
  · rw [if_neg hne] at hv
    exact h.out c' hv
  · by_cases e1 : c1 = c
    · by_cases e2 : c2 = c
      · rw [e1, e2]
      · rw [if_pos e1] at h1
        rw [if_neg e2] at h2
        obtain ⟨b2, m2, e, _, _, _, g4⟩ := h.inn c2 _ h2
        cases e
        have := g4.lt
        cases h1
        omega
    · rw [if_neg e1] at h1
      by_cases e2 : c2 = c
      · rw [if_pos e2] at h2
        obtain ⟨b2, m2, e, _, _, _, g4⟩ := h.inn c1 _ h1
        cases e
        have := g4.lt
        cases h2
        omega
      · rw [if_neg e2] at h2
        exact h.inj c1 c2 b' h1 h2
theorem gD_put (U : Int → Bool) (d : Int) : (fun d' => if d' = d then some (Value.bool true) else gD U d') = gD (fun d' => U d' || decide (d' = d)) := by
  funext d'
  unfold gD
  by_cases e : d' = d
  · rw [if_pos e]; simp [e]
  · rw [if_neg e]; simp [e]
theorem TI.put {w w' : World} {b lo n : Nat} {g : ByteArray × Int → Option Value} {T : ByteArray × Int → Int → Bool} {c : ByteArray × Int} {B m : Nat} {U : Int → Bool} (h : TI w b lo n g T c B m U) {d : Int}
    (hm : MapK Tryz.prog 3 enI w' B (m + 1) (fun d' => if d' = d then some (Value.bool true) else gD U d')) (hg : w.grownBy w' (some B)) : TI w' b lo n g T c B (m + 1) (fun d' => U d' || decide (d' = d)) := by
  rw [gD_put] at hm
  refine ⟨h.map.grown hg (fun e => h.hne (Option.some.inj e).symm), h.hlo, h.here, h.hB, h.hne, hm, fun c' v hc hv => ?_, h.out, h.inj⟩
  obtain ⟨b', m', e, h1, h2, h3, h4, h5⟩ := h.inn c' v hc hv
  exact ⟨b', m', e, h1, h2, h3, h4, h5.grown hg (fun e => h3 (Option.some.inj e))⟩
theorem TI.stop {w : World} {b lo n : Nat} {g : ByteArray × Int → Option Value} {T T' : ByteArray × Int → Int → Bool} {c : ByteArray × Int} {B m : Nat} {U : Int → Bool} (h : TI w b lo n g T c B m U) (hm : m ≤ 800 * (n + 1)) (h1 : T' c = U) (h2 : ∀ c', c' ≠ c → T' c' = T c') : TM w b lo (n + 1) g T' := by
  refine ⟨h.map, h.hlo, fun c' v hv => ?_, fun c' hv => ?_, h.inj⟩
  · by_cases e : c' = c
    · subst e
      rw [h.here] at hv
      cases hv
      exact ⟨B, m, rfl, h.hB, h.hne, hm, by rw [h1]; exact h.row⟩
    · obtain ⟨b', m', g0, g1, g2, g3, g4, g5⟩ := h.inn c' v e hv
      exact ⟨b', m', g0, g1, g2, Nat.le_trans g4 (by omega), by rw [h2 c' e]; exact g5⟩
  · by_cases e : c' = c
    · subst e
      rw [h.here] at hv
      cases hv
    · rw [h2 c' e]
      exact h.out c' e hv
/-- the blocks of maps from lo on -/
def MapX (w : World) (lo : Nat) (k : Nat) : Prop := lo ≤ k ∧ ∃ es cl, w.heap[k]? = some (.map es cl)
theorem MapK.isX {κ : Type} {P : Program} {k : TypeId} {en : κ → Value} {w : World} {b n lo : Nat} {g : κ → Option Value} (h : MapK P k en w b n g) (hlo : lo ≤ b) : MapX w lo b := by
  obtain ⟨es, clock, h1, _⟩ := h
  exact ⟨hlo, es, clock, h1⟩
theorem But.of_grown {w w' : World} {b : Nat} {X : Nat → Prop} (h : w.grownBy w' (some b)) (hx : X b) : But w w' X := ⟨h.os, h.tape, h.output, h.size, fun k hk hn => h.block k hk (fun e => hn (by have := Option.some.inj e; rw [this]; exact hx))⟩
theorem But.grown {w w1 w' : World} {b : Nat} {X : Nat → Prop} (h : But w w1 X) (hg : w1.grownBy w' (some b)) (hx : b < w.heap.size → X b) : But w w' X :=
  h.trans (But.of_grown (X := fun k => k = b) hg rfl) (fun k hk e => by rw [e] at hk ⊢; exact hx hk)
theorem but_cell {w w' : World} {B : Nat} {a : Addr} {v : Value} (h : But w w' (fun k => k = B)) (hc : w.cell? a = some v) (hne : a.block ≠ B) : w'.cell? a = some v := (World.cell?_of_block (h.block a.block (World.block_lt_of_cell? _ _ hc) hne)).trans hc
theorem cell_ne_map {κ : Type} {P : Program} {k : TypeId} {en : κ → Value} {w : World} {b n : Nat} {g : κ → Option Value} {a : Addr} {v : Value} (hc : w.cell? a = some v) (h : MapK P k en w b n g) : a.block ≠ b := by
  intro e
  obtain ⟨es, cl, h1, _⟩ := h
  rw [← e] at h1
  simp [World.cell?, h1] at hc
/-- what is taken behind a flight -/
def tkP (T : ByteArray × Int → Int → Bool) (f : FV) (c : ByteArray × Int) (d : Int) : Bool := T c d || (decide (c = (f.car, f.num)) && decide (d ∈ Per.daysQ (f.pf, f.pt, f.pd)))
theorem any_takeT {D : List Int} {U : Int → Bool} {k : Nat} {d : Int} (h : D[k]? = some d) : (D.take (k + 1)).any U = ((D.take k).any U || U d) := by
  obtain ⟨hk, rfl⟩ := List.getElem?_eq_some_iff.1 h
  rw [← List.take_append_getElem hk, List.any_append]
  simp only [List.any_cons, List.any_nil, Bool.or_false]
theorem asc_new {D : List Int} (ha : Per.Asc D) {k : Nat} {d : Int} (h : D[k]? = some d) : d ∉ D.take k := by
  obtain ⟨hk, rfl⟩ := List.getElem?_eq_some_iff.1 h
  intro hm
  obtain ⟨j, hj, e⟩ := List.mem_take_iff_getElem.1 hm
  have := List.pairwise_iff_getElem.1 ha j k (by omega) hk (by omega)
  omega

set_option maxRecDepth 100000 in
set_option maxHeartbeats 8000000 in
theorem take_any (b lo n : Nat) (g : ByteArray × Int → Option Value) (T : ByteArray × Int → Int → Bool) (f : FV) (w : World) (h : TM w b lo n g T) (hn : n ≤ 1000) (hlo : lo ≤ w.heap.size) (hcar : f.car.size ≤ maxLen) (hnum : (Lit.int .i64 f.num).wf = true) :
    Calls Tryz.prog 78 #[.map (some b), encFl f] w fun e w' => ∃ g', e = .returned (.bool ((Per.daysQ (f.pf, f.pt, f.pd)).any (T (f.car, f.num)))) ∧ TM w' b lo (n + 1) g' (tkP T f) ∧ But w w' (MapX w lo) := by
  obtain ⟨car, num, pf, pt, pd, A, c, lg⟩ := f
  dsimp only at *
  obtain ⟨kl, hkey⟩ := key_name (car, num) hcar hnum
  have hmm := @run_makeMap Tryz.prog
  have hb1 := bel_alloc w (.cells #[.string car, .int .i64 num, .int .i64 pf, .int .i64 pt, .int .i64 pd, .slice A lg.length c] fliT)
  have hb2 := bel_alloc (w.alloc (.cells #[.string car, .int .i64 num, .int .i64 pf, .int .i64 pt, .int .i64 pd, .slice A lg.length c] fliT)) (.cells #[.string car, .int .i64 num] nameT)
  have hb0 := hb1.trans (hb2.mono hb1.size)
  have q0 := (cells_new w #[.string car, .int .i64 num, .int .i64 pf, .int .i64 pt, .int .i64 pd, .slice A lg.length c] fliT 0).trans (show _ = some (Value.string car) from rfl)
  have q1 := (cells_new w #[.string car, .int .i64 num, .int .i64 pf, .int .i64 pt, .int .i64 pd, .slice A lg.length c] fliT 1).trans (show _ = some (Value.int .i64 num) from rfl)
  have p2 := bel_cell hb2 ((cells_new w #[.string car, .int .i64 num, .int .i64 pf, .int .i64 pt, .int .i64 pd, .slice A lg.length c] fliT 2).trans (show _ = some (Value.int .i64 pf) from rfl))
  have p3 := bel_cell hb2 ((cells_new w #[.string car, .int .i64 num, .int .i64 pf, .int .i64 pt, .int .i64 pd, .slice A lg.length c] fliT 3).trans (show _ = some (Value.int .i64 pt) from rfl))
  have p4 := bel_cell hb2 ((cells_new w #[.string car, .int .i64 num, .int .i64 pf, .int .i64 pt, .int .i64 pd, .slice A lg.length c] fliT 4).trans (show _ = some (Value.int .i64 pd) from rfl))
  have n0 := (cells_new (w.alloc (.cells #[.string car, .int .i64 num, .int .i64 pf, .int .i64 pt, .int .i64 pd, .slice A lg.length c] fliT)) #[.string car, .int .i64 num] nameT 0).trans (show _ = some (Value.string car) from rfl)
  have n1 := (cells_new (w.alloc (.cells #[.string car, .int .i64 num, .int .i64 pf, .int .i64 pt, .int .i64 pd, .slice A lg.length c] fliT)) #[.string car, .int .i64 num] nameT 1).trans (show _ = some (Value.int .i64 num) from rfl)
  rw [World.size_alloc] at n0 n1
  have H5 := Lib.hid (h.more hb0)
  have HB0 := Lib.hid hb0
  have HX0 : Hid (MapX w lo b) := Lib.hid (h.map.isX h.hlo)
  have HIN := Lib.hid (fun B (hv : g (car, num) = some (.map (some B))) => (show MapX w lo B by
    obtain ⟨b', m, e, h1, _, _, h4⟩ := h.inn _ _ hv
    cases e
    exact h4.isX h1))
  have hsz5 : w.heap.size + 1 < ((w.alloc (.cells #[.string car, .int .i64 num, .int .i64 pf, .int .i64 pt, .int .i64 pd, .slice A lg.length c] fliT)).alloc (.cells #[.string car, .int .i64 num] nameT)).heap.size := by simp
  obtain ⟨D, hD⟩ : ∃ D, D = Per.daysQ (pf, pt, pd) := ⟨_, rfl⟩
  have HBD : Hid (∀ d ∈ D, 0 ≤ d ∧ d < 36525) := Lib.hid (by rw [hD]; exact fun d => days_bd)
  have HAS : Hid (Per.Asc D) := Lib.hid (by rw [hD]; exact Per.daysQ_asc _)
  have hDl : D.length ≤ 800 := by rw [hD]; exact Per.daysQ_len _
  have KD := Lib.hid (pdays_any pf pt pd)
  have HT : Hid (tkP T ⟨car, num, pf, pt, pd, A, c, lg⟩ = fun c' d => T c' d || (decide (c' = (car, num)) && decide (d ∈ D))) := Lib.hid (by rw [hD]; rfl)
  rw [← hD] at KD
  rw [← hD]
  have HKEY := Lib.hid hkey
  clear hD h hb1 hb2 hb0 hcar hnum hkey
  go_enter Tryz.func78, Tryz.ntmps78
  go_upto_region 2 with fail
  generalize hw5 : ((w.alloc (.cells #[.string car, .int .i64 num, .int .i64 pf, .int .i64 pt, .int .i64 pd, .slice A lg.length c] fliT)).alloc (.cells #[.string car, .int .i64 num] nameT)) = w5 at *
  clear hw5 q0 q1
  cases hg : g (car, num) with
  | some v =>
    obtain ⟨B, m, rfl, hm, hti⟩ := H5.out.start hg
    have hl0 : (Instr.lookup 116 (.map (some b)) (.agg #[.string car, .int .i64 num]) false).run Tryz.prog w5 = .ok (.map (some B)) w5 := by
      have h := H5.out.map.look nameK Tryz.underlying116 (zeroMD w5) HKEY.out false
      rw [hg] at h
      exact h
    have hnl := nilM_no B w5
    have HTI := Lib.hid hti
    have HBT : Hid (But w w5 (MapX w lo)) := Lib.hid (But.of_below HB0.out)
    have HXB : Hid (B < w.heap.size → MapX w lo B) := Lib.hid (fun _ => HIN.out B hg)
    clear hti hg
    go_wp2_with (go_at_call 98; refine (KD.out _).mono ?_; rintro e w7 ⟨v7, rfl, hI, hbd⟩; obtain ⟨A7, c7, rfl, _⟩ := id hI)
    have HI := Lib.hid hI
    have HTI7 := Lib.hid (HTI.out.more hbd)
    have HBT7 := Lib.hid (HBT.out.trans (But.of_below (X := MapX w lo) hbd) (fun _ _ h => h))
    have N0 := Lib.hid (bel_cell hbd n0)
    have N1 := Lib.hid (bel_cell hbd n1)
    have hBl := HTI7.out.row.lt
    clear p2 p3 p4 n0 n1 hI hbd HTI HBT KD
    go_loopw [6, 25] (fun v0 vi wr => ∃ k : Nat, k ≤ D.length ∧ vi = .int .i64 k ∧ v0 = .bool ((D.take k).any (T (car, num))) ∧ Hid (TI wr b lo n g T (car, num) B (m + k) (fun d => T (car, num) d || decide (d ∈ D.take k)) ∧ But w7 wr (fun k => k = B))) (fun _ vi _ => D.length - (intOf vi).toNat)
    case atStart => exact ⟨0, Nat.zero_le _, rfl, rfl, Lib.hid ⟨by simpa using HTI7.out, But.refl _ _⟩⟩
    case round =>
      obtain ⟨k, hk, rfl, rfl, HK⟩ := hrel
      obtain ⟨hti, hbt⟩ := HK.out
      by_cases hlt : k < D.length
      · obtain ⟨d, hd⟩ : ∃ d, D[k]? = some d := ⟨_, List.getElem?_eq_getElem hlt⟩
        have i2 : (k : Int) < (D.length : Int) := by omega
        obtain ⟨b2, o2, rfl, hb2, hc2⟩ := IntL.at1 HI.out hlt
        have hd0' := (hc2 k hlt).trans (congrArg (fun x => some (Value.int .i64 x)) (List.getElem?_eq_some_iff.1 hd).2)
        have hd0 := but_cell hbt hd0' (cell_ne_map hd0' HTI7.out.row)
        have n0 := but_cell hbt N0.out (cell_ne_map N0.out HTI7.out.row)
        have n1 := but_cell hbt N1.out (cell_ne_map N1.out HTI7.out.row)
        have hdb := HBD.out d (List.mem_of_getElem? hd)
        have hdw : (Lit.int .i64 d).wf = true := by
          have e1 : IntKind.i64.min = -9223372036854775808 := rfl
          have e2 : IntKind.i64.max = 9223372036854775807 := rfl
          simp only [Lit.wf, e1, e2, Bool.and_eq_true, decide_eq_true_eq]
          omega
        have hnew := asc_new HAS.out hd
        have HAN := Lib.hid (any_takeT (U := T (car, num)) hd)
        have hl1 : (Instr.lookup 116 (.map (some b)) (.agg #[.string car, .int .i64 num]) false).run Tryz.prog wr = .ok (.map (some B)) wr := by
          have h := hti.map.look nameK Tryz.underlying116 (zeroMD wr) HKEY.out false
          rw [hti.here] at h
          exact h
        have hl2 : (Instr.lookup 195 (.map (some B)) (.int .i64 d) false).run Tryz.prog wr = .ok (.bool (T (car, num) d)) wr := by
          have h : (Instr.lookup 195 (.map (some B)) (.int .i64 d) false).run Tryz.prog wr = .ok ((gD (fun d => T (car, num) d || decide (d ∈ D.take k)) d).getD (.bool false)) wr := hti.row.look dayK Tryz.underlying195 (zeroB wr) (key_day d hdw) false
          rw [gD_get] at h
          exact h.trans (congrArg (fun x => Result.ok (Value.bool x) wr) (by show (T (car, num) d || decide (d ∈ D.take k)) = _; rw [decide_eq_false hnew, Bool.or_false]))
        have HTK := Lib.hid hti
        have HBK := Lib.hid hbt
        have HDW := Lib.hid hdw
        have HU : Hid ((fun d' => (T (car, num) d' || decide (d' ∈ D.take k)) || decide (d' = d)) = fun d' => T (car, num) d' || decide (d' ∈ D.take (k + 1))) := Lib.hid (by
          funext d'
          obtain ⟨hk2, rfl⟩ := List.getElem?_eq_some_iff.1 hd
          rw [show List.take (k + 1) D = List.take k D ++ [D[k]] from (List.take_append_getElem hk2).symm]
          simp only [List.mem_append, List.mem_singleton, Bool.decide_or, Bool.or_assoc])
        have hnm : m + k < maxLen := by unfold maxLen; omega
        clear hti hbt HK hd hc2 hd0' hdb hdw hnew
        cases hA : (D.take k).any (T (car, num))
        all_goals
          rw [hA] at HAN
          clear hA
          have hm9 := HTK.out.row
          go_wp2_with (at_mapUpdate; refine wpList_put rfl _ _ _ 195 rfl dayK enI_inj Tryz.underlying195 rfl hm9 hnm d _ rfl (key_day d HDW.out) ?_; intro w9 hm10 hg9)
          go_roundw
          case rel =>
            have hput := HTK.out.put hm10 hg9
            rw [HU.out] at hput
            exact ⟨k + 1, by omega, by go_num, by rw [HAN.out]; first | rfl | simp, Lib.hid ⟨hput, HBK.out.trans (But.of_grown (X := fun k => k = B) hg9 rfl) (fun _ _ h => h)⟩⟩
          case measure => simp [intOf]; omega
      · have hk' : k = D.length := by omega
        have i2 : ¬ (k : Int) < (D.length : Int) := by omega
        rw [hk', List.take_length] at hti
        have hfin := hti.stop (T' := tkP T ⟨car, num, pf, pt, pd, A, c, lg⟩) (by omega) (by rw [HT.out]; funext d; simp) (fun c' hc' => by rw [HT.out]; funext d; simp [hc'])
        have hbu := HBT7.out.trans hbt (fun k hk e => by rw [e] at hk ⊢; exact HXB.out hk)
        rw [hk', List.take_length]
        clear hti hbt hk'
        go_wp2
        go_ret
        first | exact ⟨_, rfl, hfin, hbu⟩ | exact ⟨rfl, ⟨_, hfin⟩, hbu⟩
  | none =>
    have hl0 : (Instr.lookup 116 (.map (some b)) (.agg #[.string car, .int .i64 num]) false).run Tryz.prog w5 = .ok (.map none) w5 := by
      have h := H5.out.map.look nameK Tryz.underlying116 (zeroMD w5) HKEY.out false
      rw [hg] at h
      exact h
    have hnl := nilM_yes w5
    have HG0 := Lib.hid hg
    have hbm := bel_alloc w5 (.map #[] 0)
    have hm5 := H5.out.map.more hbm
    have hn3 : n < maxLen := by unfold maxLen; omega
    have hsz : w.heap.size ≤ w5.heap.size := by omega
    have n0' := bel_cell hbm n0
    have n1' := bel_cell hbm n1
    have p2' := bel_cell hbm p2
    have p3' := bel_cell hbm p3
    have p4' := bel_cell hbm p4
    clear hg
    go_wp2_with (at_mapUpdate; refine wpList_put rfl _ _ _ 116 rfl nameK enN_inj Tryz.underlying116 rfl hm5 hn3 (car, num) _ rfl HKEY.out ?_; intro w6 hm6 hg6; refine Hid.out ?_)
    have n0 := hg6.cell n0' (fun e => cell_ne_map n0' hm5 (Option.some.inj e))
    have n1 := hg6.cell n1' (fun e => cell_ne_map n1' hm5 (Option.some.inj e))
    have p2 := hg6.cell p2' (fun e => cell_ne_map p2' hm5 (Option.some.inj e))
    have p3 := hg6.cell p3' (fun e => cell_ne_map p3' hm5 (Option.some.inj e))
    have p4 := hg6.cell p4' (fun e => cell_ne_map p4' hm5 (Option.some.inj e))
    obtain ⟨B, hB⟩ : ∃ B, B = w5.heap.size := ⟨_, rfl⟩
    obtain ⟨m, hm0⟩ : ∃ m : Nat, m = 0 := ⟨_, rfl⟩
    have hti := H5.out.fresh HG0.out hm6 hg6 (Nat.le_trans hlo hsz)
    rw [← hB] at hti
    obtain ⟨g6, hg6e⟩ : ∃ g6, g6 = (fun c' => if c' = (car, num) then some (Value.map (some B)) else g c') := ⟨_, rfl⟩
    rw [← hg6e] at hti
    have HTI : Hid (TI w6 b lo n g6 T (car, num) B m (T (car, num))) := Lib.hid (by rw [hm0]; exact hti)
    have hm : m ≤ 800 * n := by omega
    have HBT : Hid (But w w6 (MapX w lo)) := Lib.hid ((But.of_below (X := MapX w lo) (HB0.out.trans (hbm.mono HB0.out.size))).grown hg6 (fun _ => HX0.out))
    have HXB : Hid (B < w.heap.size → MapX w lo B) := Lib.hid (fun h => by omega)
    rw [← hB]
    clear hti hg6e hm6 hm0 hB hg6 hbm hm5 n0' n1' p2' p3' p4' hl0 hnl
    refine Lib.hid ?_
    go_wp2_with (go_at_call 98; refine (KD.out _).mono ?_; rintro e w7 ⟨v7, rfl, hI, hbd⟩; obtain ⟨A7, c7, rfl, _⟩ := id hI)
    have HI := Lib.hid hI
    have HTI7 := Lib.hid (HTI.out.more hbd)
    have HBT7 := Lib.hid (HBT.out.trans (But.of_below (X := MapX w lo) hbd) (fun _ _ h => h))
    have N0 := Lib.hid (bel_cell hbd n0)
    have N1 := Lib.hid (bel_cell hbd n1)
    have hBl := HTI7.out.row.lt
    clear p2 p3 p4 n0 n1 hI hbd HTI HBT KD
    go_loopw [6, 25] (fun v0 vi wr => ∃ k : Nat, k ≤ D.length ∧ vi = .int .i64 k ∧ v0 = .bool ((D.take k).any (T (car, num))) ∧ Hid (TI wr b lo n g6 T (car, num) B (m + k) (fun d => T (car, num) d || decide (d ∈ D.take k)) ∧ But w7 wr (fun k => k = B))) (fun _ vi _ => D.length - (intOf vi).toNat)
    case atStart => exact ⟨0, Nat.zero_le _, rfl, rfl, Lib.hid ⟨by simpa using HTI7.out, But.refl _ _⟩⟩
    case round =>
      obtain ⟨k, hk, rfl, rfl, HK⟩ := hrel
      obtain ⟨hti, hbt⟩ := HK.out
      by_cases hlt : k < D.length
      · obtain ⟨d, hd⟩ : ∃ d, D[k]? = some d := ⟨_, List.getElem?_eq_getElem hlt⟩
        have i2 : (k : Int) < (D.length : Int) := by omega
        obtain ⟨b2, o2, rfl, hb2, hc2⟩ := IntL.at1 HI.out hlt
        have hd0' := (hc2 k hlt).trans (congrArg (fun x => some (Value.int .i64 x)) (List.getElem?_eq_some_iff.1 hd).2)
        have hd0 := but_cell hbt hd0' (cell_ne_map hd0' HTI7.out.row)
        have n0 := but_cell hbt N0.out (cell_ne_map N0.out HTI7.out.row)
        have n1 := but_cell hbt N1.out (cell_ne_map N1.out HTI7.out.row)
        have hdb := HBD.out d (List.mem_of_getElem? hd)
        have hdw : (Lit.int .i64 d).wf = true := by
          have e1 : IntKind.i64.min = -9223372036854775808 := rfl
          have e2 : IntKind.i64.max = 9223372036854775807 := rfl
          simp only [Lit.wf, e1, e2, Bool.and_eq_true, decide_eq_true_eq]
          omega
        have hnew := asc_new HAS.out hd
        have HAN := Lib.hid (any_takeT (U := T (car, num)) hd)
        have hl1 : (Instr.lookup 116 (.map (some b)) (.agg #[.string car, .int .i64 num]) false).run Tryz.prog wr = .ok (.map (some B)) wr := by
          have h := hti.map.look nameK Tryz.underlying116 (zeroMD wr) HKEY.out false
          rw [hti.here] at h
          exact h
        have hl2 : (Instr.lookup 195 (.map (some B)) (.int .i64 d) false).run Tryz.prog wr = .ok (.bool (T (car, num) d)) wr := by
          have h : (Instr.lookup 195 (.map (some B)) (.int .i64 d) false).run Tryz.prog wr = .ok ((gD (fun d => T (car, num) d || decide (d ∈ D.take k)) d).getD (.bool false)) wr := hti.row.look dayK Tryz.underlying195 (zeroB wr) (key_day d hdw) false
          rw [gD_get] at h
          exact h.trans (congrArg (fun x => Result.ok (Value.bool x) wr) (by show (T (car, num) d || decide (d ∈ D.take k)) = _; rw [decide_eq_false hnew, Bool.or_false]))
        have HTK := Lib.hid hti
        have HBK := Lib.hid hbt
        have HDW := Lib.hid hdw
        have HU : Hid ((fun d' => (T (car, num) d' || decide (d' ∈ D.take k)) || decide (d' = d)) = fun d' => T (car, num) d' || decide (d' ∈ D.take (k + 1))) := Lib.hid (by
          funext d'
          obtain ⟨hk2, rfl⟩ := List.getElem?_eq_some_iff.1 hd
          rw [show List.take (k + 1) D = List.take k D ++ [D[k]] from (List.take_append_getElem hk2).symm]
          simp only [List.mem_append, List.mem_singleton, Bool.decide_or, Bool.or_assoc])
        have hnm : m + k < maxLen := by unfold maxLen; omega
        clear hti hbt HK hd hc2 hd0' hdb hdw hnew
        cases hA : (D.take k).any (T (car, num))
        all_goals
          rw [hA] at HAN
          clear hA
          have hm9 := HTK.out.row
          go_wp2_with (at_mapUpdate; refine wpList_put rfl _ _ _ 195 rfl dayK enI_inj Tryz.underlying195 rfl hm9 hnm d _ rfl (key_day d HDW.out) ?_; intro w9 hm10 hg9)
          go_roundw
          case rel =>
            have hput := HTK.out.put hm10 hg9
            rw [HU.out] at hput
            exact ⟨k + 1, by omega, by go_num, by rw [HAN.out]; first | rfl | simp, Lib.hid ⟨hput, HBK.out.trans (But.of_grown (X := fun k => k = B) hg9 rfl) (fun _ _ h => h)⟩⟩
          case measure => simp [intOf]; omega
      · have hk' : k = D.length := by omega
        have i2 : ¬ (k : Int) < (D.length : Int) := by omega
        rw [hk', List.take_length] at hti
        have hfin := hti.stop (T' := tkP T ⟨car, num, pf, pt, pd, A, c, lg⟩) (by omega) (by rw [HT.out]; funext d; simp) (fun c' hc' => by rw [HT.out]; funext d; simp [hc'])
        have hbu := HBT7.out.trans hbt (fun k hk e => by rw [e] at hk ⊢; exact HXB.out hk)
        rw [hk', List.take_length]
        clear hti hbt hk'
        go_wp2
        go_ret
        first | exact ⟨_, rfl, hfin, hbu⟩ | exact ⟨rfl, ⟨_, hfin⟩, hbu⟩

end Go.Proofs.YtldillnjnjkkgaaGreatDoor

/- Walk of flight.Segs. -/
namespace Go.Proofs.YtldillnjnjkkgaaGreatDoor
open Go.RowKit Go.Shelf
set_option linter.unusedSimpArgs false
set_option linter.unusedVariables false

theorem RowL.dropAt {w : World} {b o c n : Nat} {L : List Dt} (h : RowL 8 encDt w (.slice (some ⟨b, o, none⟩) n c) L) (i : Nat) {k : Nat} {y : Dt} (hk : (L.drop i)[k]? = some y) : ∀ j u, (encDt y)[j]? = some u → w.cell? ⟨b, o + i * 8 + k * 8 + j, none⟩ = some u := by
  rw [List.getElem?_drop] at hk
  obtain ⟨b', o', e, _, hc⟩ := RowL.at8 h hk
  cases e
  intro j u hu
  have := hc j u hu
  rw [show o + i * 8 + k * 8 + j = o + (i + k) * 8 + j by rw [Nat.add_mul]; omega]
  exact this
theorem heap_alloc_two (w : World) (a o : Obj) : ((w.alloc a).alloc o).heap[w.heap.size + 1]? = some o := by
  have h := heap_alloc_new (w.alloc a) o
  rwa [World.size_alloc] at h
theorem ROwn.cap {α : Type} {enc : α → List Value} {e : TypeId} {sz B : Nat} {w : World} {A : Option Addr} {n c : Nat} {l : List α} (h : ROwn e sz enc B w (.slice A n c) l) : l.length ≤ c := by
  rcases h.own.2 with ⟨e1, h1⟩ | ⟨g, cap, cur, e1, _, _, hnc, _⟩
  · omega
  · cases e1; exact hnc
/-- what the segments have in common with their flight -/
def SameFl (f : FV) (day : Int) (L : List Dt) : Prop := ∀ d ∈ L, d.car = f.car ∧ d.num = f.num ∧ d.day = day
theorem legF_same (l : List Air) (f : FV) (day : Int) : SameFl f day (legF l f day) := by
  intro d hd
  unfold legF at hd
  split at hd
  · obtain ⟨x, _, rfl⟩ := List.mem_map.1 hd
    exact ⟨rfl, rfl, rfl⟩
  · simp at hd

set_option maxRecDepth 100000 in
set_option maxHeartbeats 8000000 in
theorem segs_any (p : PV) (f : FV) (day : Int) (w : World) (hl : p.l.length ≤ 40) (hL : AirL w p.A p.l) (hs : ∀ a ∈ p.l, a.shs.length ≤ 300) (hz : ∀ a ∈ p.l, OkZ a.off a.shs) (hG : LegL w (.slice f.A f.lg.length f.c) f.lg) (hn : f.lg.length ≤ 100)
    (hm : ∀ x ∈ f.lg, (-1000000 ≤ x.dep ∧ x.dep ≤ 1000000) ∧ -1000000 ≤ x.arr ∧ x.arr ≤ 1000000) (hd1 : -9223372036854775808 ≤ day) (hd2 : day ≤ 9223372036854775807) :
    Calls Tryz.prog 34 #[encP p, encFl f, .int .i64 day] w fun e w' => ∃ v, e = .returned (.tuple #[v, .int .i64 (legE f day)]) ∧ ROwn segT 7 encSg w.heap.size w' v (segsL (legF p.l f day)) ∧ Below w.heap.size w w' := by
  have hb1 := bel_alloc w (.cells #[.slice p.A p.l.length p.ca, .slice p.D p.ds.length p.cd] placesT)
  have hb2 := bel_alloc (w.alloc (.cells #[.slice p.A p.l.length p.ca, .slice p.D p.ds.length p.cd] placesT)) (.cells #[.string f.car, .int .i64 f.num, .int .i64 f.pf, .int .i64 f.pt, .int .i64 f.pd, .slice f.A f.lg.length f.c] fliT)
  have hb0 := hb1.trans (hb2.mono hb1.size)
  have q0 := (cells_new (w.alloc (.cells #[.slice p.A p.l.length p.ca, .slice p.D p.ds.length p.cd] placesT)) #[.string f.car, .int .i64 f.num, .int .i64 f.pf, .int .i64 f.pt, .int .i64 f.pd, .slice f.A f.lg.length f.c] fliT 0).trans (show _ = some (.string f.car) from rfl)
  have q1 := (cells_new (w.alloc (.cells #[.slice p.A p.l.length p.ca, .slice p.D p.ds.length p.cd] placesT)) #[.string f.car, .int .i64 f.num, .int .i64 f.pf, .int .i64 f.pt, .int .i64 f.pd, .slice f.A f.lg.length f.c] fliT 1).trans (show _ = some (.int .i64 f.num) from rfl)
  rw [World.size_alloc] at q0 q1
  have KL := Lib.hid (legs_any p f day _ hl (hL.more hb0) hs hz (hG.more hb0) hn hm hd1 hd2)
  have HSM := Lib.hid (legF_same p.l f day)
  have HLn : Hid ((legF p.l f day).length ≤ 100) := Lib.hid (by unfold legF; split <;> simp <;> omega)
  have HLE : Hid (legE f day ≠ 0 → legF p.l f day = []) := Lib.hid (by unfold legE legF; split <;> simp)
  generalize hLF : legF p.l f day = L at *
  generalize legE f day = e0 at *
  clear hL hs hz hG hm hd1 hd2 hLF
  by_cases he : e0 = 0
  case neg =>
    have hb : (e0 != 0) = true := by simpa using he
    have HR : Hid (L = []) := Lib.hid (HLE.out he)
    clear he
    go_enter Tryz.func34, Tryz.ntmps34
    go_wp2_with (go_at_call 35; refine KL.out.mono ?_; rintro e w1 ⟨v1, rfl, hO1, hbl⟩)
    have h1 : Below w.heap.size w w1 := hb0.trans (Below.mono hbl hb0.size)
    exact bodyPost_ret (results_tmp2 rfl _ _ _) rfl ⟨_, rfl, by rw [HR.out]; exact ROwn.nil h1.size, h1⟩
  case pos =>
  subst he
  go_enter Tryz.func34, Tryz.ntmps34
  go_upto_region 6 with (go_at_call 35; refine KL.out.mono ?_; rintro e w1 ⟨v1, rfl, hO1, hbl⟩; obtain ⟨A1, c1, rfl, hvc⟩ := id (hO1.rowL rtD.len); have hcap := hO1.cap)
  have hS0 : Below w.heap.size w w1 := hb0.trans (Below.mono hbl hb0.size)
  have c0 := bel_cell hbl q0
  have c1' := bel_cell hbl q1
  have HV := Lib.hid (hO1.rowL rtD.len)
  have hlt1 : w.heap.size + 1 < w1.heap.size := World.block_lt_of_cell? _ _ c0
  have F0 := Lib.hid (bel_get c0)
  have F1 := Lib.hid (bel_get c1')
  clear hO1 hvc KL q0 q1 c0 c1' hbl HLE hb1 hb2
  go_loopg [10, 27] L.length (fun kx v10 vi wr => ∃ (v : Value) (i : Nat), v = v10 ∧ vi = .int .i64 i ∧ i + kx = L.length ∧ Hid (ROwn segT 7 encSg w1.heap.size wr v (segsI L i) ∧ SW w1 wr))
  case atStart => exact ⟨_, 0, rfl, rfl, by omega, Lib.hid ⟨ROwn.nil (Nat.le_refl _), Below.refl _ _⟩⟩
  case round =>
    obtain ⟨v, i, rfl, rfl, hix, HH⟩ := hrel
    have HIX := Lib.hid hix
    have hSr : SW w1 wr := HH.out.2
    by_cases hlt : i < L.length
    · clear hix
      obtain ⟨a, ha⟩ : ∃ a, L[i]? = some a := ⟨_, List.getElem?_eq_getElem hlt⟩
      obtain ⟨b, o, rfl, hbl, hc⟩ := RowL.at8 (HV.out.more hSr) ha
      have HSm := Lib.hid (HSM.out a (List.mem_of_getElem? ha))
      have HSS := Lib.hid (segsI_succ ha)
      have i2 : (i : Int) < (L.length : Int) := by omega
      have z0 := hc 0 _ rfl
      have z1 := hc 1 _ rfl
      have z2 := hc 2 _ rfl
      have z3 := hc 3 _ rfl
      have z4 := hc 4 _ rfl
      have z5 := hc 5 _ rfl
      have z6 := hc 6 _ rfl
      have z7 := hc 7 _ rfl
      rw [Nat.add_zero] at z0
      have hO := HH.out.1
      have HV1 : Hid (∀ g, v.ownBlock = some g → w1.heap.size ≤ g ∧ g < wr.heap.size) := Lib.hid (fun g hg => hO.low hg)
      have hvN : v.ownBlock ≠ some wr.heap.size := fun h => by have := (HV1.out _ h).2; omega
      have hb6 := bel_alloc wr (.cells #[.string a.car, .int .i64 a.num, .int .i64 a.day, .string a.f, .string a.t, .int .i64 a.dep, .int .i64 a.arr, .string a.eq] datT)
      have m3 := (cells_new wr #[.string a.car, .int .i64 a.num, .int .i64 a.day, .string a.f, .string a.t, .int .i64 a.dep, .int .i64 a.arr, .string a.eq] datT 3).trans (show _ = some (Value.string a.f) from rfl)
      have m5 := (cells_new wr #[.string a.car, .int .i64 a.num, .int .i64 a.day, .string a.f, .string a.t, .int .i64 a.dep, .int .i64 a.arr, .string a.eq] datT 5).trans (show _ = some (Value.int .i64 a.dep) from rfl)
      have i3 : (i : Int) ≤ (c1 : Int) := by omega
      have i4 : (L.length : Int) ≤ (c1 : Int) := by omega
      have i5 : (i : Int) ≤ (L.length : Int) := by omega
      have i6 : i < c1 := by omega
      have i7 : (i : Int) < (c1 : Int) := by omega
      have i8 : ¬ (c1 : Int) = (i : Int) := by omega
      have i9 : ¬ c1 = i := by omega
      have hi3 : (L.length - i : Nat) = (L.drop i).length := by rw [List.length_drop]
      have HD := Lib.hid hi3
      have hle : (segsI L i).length ≤ 10000 := by
        have h1 := segsI_le L i
        have h2 := HLn.out
        have h3 : i * L.length ≤ 100 * 100 := Nat.mul_le_mul (by omega) (by omega)
        omega
      have HLE2 := Lib.hid hle
      clear hc ha hle hi3
      have HLT := Lib.hid hlt
      have ib : i ≤ 100 := by have := HLn.out; omega
      have HNX : Hid (i + 1 + (L.length - (i + 1)) = L.length) := Lib.hid (by omega)
      have HM : Hid ((L.drop i).length = L.length - i) := Lib.hid (by rw [List.length_drop])
      have hm100 : L.length - i ≤ 100 := by have := HLn.out; omega
      go_upto_region 9 with fail
      generalize hw6 : wr.alloc (.cells #[.string a.car, .int .i64 a.num, .int .i64 a.day, .string a.f, .string a.t, .int .i64 a.dep, .int .i64 a.arr, .string a.eq] datT) = w6 at *
      clear hw6 z0 z1 z2 z3 z4 z5 z6 z7
      have hO6 := hO.more hb6
      have HS6 : Hid (SW w1 w6) := Lib.hid (Below.trans hSr (hb6.mono hSr.size))
      have HO6 := Lib.hid hO6
      have HM3 : Hid (∀ W u, Chg w6 W v u → W.cell? ⟨wr.heap.size, 3, none⟩ = some (.string a.f)) := Lib.hid (fun W u h => h.cell m3 hvN)
      have HM5 : Hid (∀ W u, Chg w6 W v u → W.cell? ⟨wr.heap.size, 5, none⟩ = some (.int .i64 a.dep)) := Lib.hid (fun W u h => h.cell m5 hvN)
      have HSW : Hid (∀ W u, Chg w6 W v u → SW w1 W) := Lib.hid (fun W u h => Below.trans HS6.out (h.below HO6.out))
      have HI0 : Hid (ROwn segT 7 encSg w1.heap.size w6 v (segsI L i ++ ((L.drop i).take 0).map (sgOf a)) ∧ Chg w6 w6 v v) := Lib.hid ⟨by simpa using hO6, Chg.refl _ _⟩
      have i10 : (0 : Int) ≤ ((L.length - i : Nat) : Int) := by omega
      clear hO hO6 m3 m5 hSr HH hb6 hbl i3 i4 i5 i6 i7 i8 i9 i2 HD
      generalize hmm : L.length - i = m at *
      clear hmm
      go_loopg [10, 36] m (fun kx v10 vk wr => ∃ (u : Value) (k : Nat), u = v10 ∧ vk = .int .i64 k ∧ k + kx = m ∧ Hid (ROwn segT 7 encSg w1.heap.size wr u (segsI L i ++ ((L.drop i).take k).map (sgOf a)) ∧ Chg w6 wr v u))
      case atStart => exact ⟨_, 0, rfl, rfl, by omega, HI0⟩
      case round =>
        obtain ⟨u, k, rfl, rfl, hkx, HK⟩ := hrel
        clear HI0
        have HKX := Lib.hid hkx
        have hC := HK.out.2
        have hSq := HSW.out _ _ hC
        by_cases hlk : k < m
        · clear hkx
          obtain ⟨y, hy⟩ : ∃ y, (L.drop i)[k]? = some y := ⟨_, List.getElem?_eq_getElem (by rw [HM.out]; exact hlk)⟩
          have hc := RowL.dropAt (HV.out.more hSq) i hy
          have j2 : (k : Int) < (m : Int) := by omega
          have y0 := hc 0 _ rfl
          have y1 := hc 1 _ rfl
          have y2 := hc 2 _ rfl
          have y3 := hc 3 _ rfl
          have y4 := hc 4 _ rfl
          have y5 := hc 5 _ rfl
          have y6 := hc 6 _ rfl
          have y7 := hc 7 _ rfl
          rw [Nat.add_zero] at y0
          have hO := HK.out.1.alloc (.cells #[.string y.car, .int .i64 y.num, .int .i64 y.day, .string y.f, .string y.t, .int .i64 y.dep, .int .i64 y.arr, .string y.eq] datT)
          have hby := bel_alloc wr (.cells #[.string y.car, .int .i64 y.num, .int .i64 y.day, .string y.f, .string y.t, .int .i64 y.dep, .int .i64 y.arr, .string y.eq] datT)
          have hSy : SW w1 (wr.alloc (.cells #[.string y.car, .int .i64 y.num, .int .i64 y.day, .string y.f, .string y.t, .int .i64 y.dep, .int .i64 y.arr, .string y.eq] datT)) := Below.trans hSq (hby.mono hSq.size)
          have x0 := F0.out _ hSy
          have x1 := F1.out _ hSy
          have x3 := bel_cell hby (HM3.out _ _ hC)
          have x5 := bel_cell hby (HM5.out _ _ hC)
          have HTk : Hid (segsI L i ++ ((L.drop i).take (k + 1)).map (sgOf a) = segsI L i ++ ((L.drop i).take k).map (sgOf a) ++ [(⟨f.car, f.num, day, a.f, y.t, a.dep, y.arr⟩ : Sg)]) := Lib.hid (by
            rw [List.take_add_one, hy, List.map_append, List.append_assoc]
            have e : sgOf a y = ⟨f.car, f.num, day, a.f, y.t, a.dep, y.arr⟩ := by
              obtain ⟨e1, e2, e3⟩ := HSm.out
              unfold sgOf
              rw [e1, e2, e3]
            simp [e])
          have HLn2 : Hid ((segsI L i ++ ((L.drop i).take k).map (sgOf a)).length ≤ 100000000) := Lib.hid (by
            have h1 := HLE2.out
            have h2 := List.length_take_le k (L.drop i)
            rw [List.length_append, List.length_map]
            omega)
          have hCy := hC.trans (Chg.of_below hby)
          clear hc hy hSq
          go_wp2_with (at_builtin; refine wpList_rapp rtG rfl _ _ rfl hO rfl (bel_alloc _ _) _ (⟨f.car, f.num, day, a.f, y.t, a.dep, y.arr⟩ : Sg) _ rfl (cs := #[.string f.car, .int .i64 f.num, .int .i64 day, .string a.f, .string y.t, .int .i64 a.dep, .int .i64 y.arr]) rfl (heap_alloc_two _ _ _) HLn2.out ?_; intro v9 w9 hO9 hC9)
          have HY : Hid (ROwn segT 7 encSg w1.heap.size w9 v9 (segsI L i ++ ((L.drop i).take (k + 1)).map (sgOf a)) ∧ Chg w6 w9 v v9) := Lib.hid ⟨by rw [HTk.out]; exact hO9, hCy.trans hC9⟩
          clear hO9 hC9 hO hCy
          go_roundg (m - (k + 1))
          case measure => have := HKX.out; omega
          case rel => exact ⟨_, k + 1, rfl, by go_num, by omega, HY⟩
        · have hk : k = m := by omega
          have HY : Hid (ROwn segT 7 encSg w1.heap.size wr u (segsI L (i + 1)) ∧ SW w1 wr) := Lib.hid ⟨by
            have h := HK.out.1
            rw [hk, List.take_of_length_le (by rw [HM.out]; omega)] at h
            rw [HSS.out]
            exact h, hSq⟩
          have j2 : ¬ (k : Int) < (m : Int) := by omega
          clear HK hkx hk hC hSq
          go_wp2
          go_roundg (L.length - (i + 1))
          case measure => have h1 := HIX.out; have h2 : i < L.length := HLT.out; rw [← h1] at h2 ⊢; omega
          case rel => exact ⟨_, i + 1, rfl, by go_num, HNX.out, HY⟩
    · have hi : i = L.length := by omega
      have HZ : Hid (ROwn segT 7 encSg w.heap.size wr v (segsL L) ∧ Below w.heap.size w wr) := Lib.hid ⟨⟨by
        have h := HH.out.1.own
        rw [hi] at h
        exact h.mono hS0.size, Nat.le_trans hS0.size hSr.size⟩, hS0.trans (Below.mono hSr hS0.size)⟩
      have i2 : ¬ (i : Int) < (L.length : Int) := by omega
      clear HH hix hi
      go_wp2
      exact bodyPost_ret (results_tmp2 rfl _ _ _) rfl ⟨v, rfl, HZ.out.1, HZ.out.2⟩

end Go.Proofs.YtldillnjnjkkgaaGreatDoor

/- Walks of slices.Clone at legs, of find at flights and at segments, and of what they are asked by. -/
namespace Go.Proofs.YtldillnjnjkkgaaGreatDoor
open Go.RowKit Go.Shelf
set_option linter.unusedSimpArgs false
set_option linter.unusedVariables false

theorem rtLg : RT Tryz.prog 24 legT 5 encLg where
  ht := Tryz.underlying24
  info := ⟨.agg #[.string noB, .string noB, .int .i64 0, .int .i64 0, .string noB], 64, by kernel_rfl, rfl, by omega⟩
  len x := rfl
  one x u hu := by simp [encLg] at hu; rcases hu with rfl | rfl | rfl | rfl | rfl <;> rfl
  pos := by omega
theorem nilL_yes (n c : Nat) (w : World) : (binOp .eql 24 (.slice none n c) (.slice none 0 0)).run Tryz.prog w = .ok (.bool true) w := by kernel_rfl
theorem nilL_no (a : Addr) (n c : Nat) (w : World) : (binOp .eql 24 (.slice (some a) n c) (.slice none 0 0)).run Tryz.prog w = .ok (.bool false) w := by kernel_rfl
theorem RowL.at0 {α : Type} {enc : α → List Value} {sz : Nat} {w : World} {A : Option Addr} {n c : Nat} {l : List α} (h : RowL sz enc w (.slice A n c) l) (h0 : l ≠ []) : ∃ b o, A = some ⟨b, o, none⟩ ∧ b < w.heap.size ∧ ∀ i x j u, l[i]? = some x → (enc x)[j]? = some u → w.cell? ⟨b, o + i * sz + j, none⟩ = some u := by
  obtain ⟨A', c', e, h⟩ := h
  cases e
  rcases h with h | h
  · exact absurd h h0
  · exact h
theorem ROwn.formG {α : Type} {enc : α → List Value} {e : TypeId} {sz B : Nat} {w : World} {v : Value} {l : List α} (h : ROwn e sz enc B w v l) (hne : l ≠ []) : ∃ g cap, v = .slice (some ⟨g, 0, none⟩) l.length cap ∧ B ≤ g ∧ g < w.heap.size := by
  obtain ⟨g, cap, h1, h2, h3⟩ := h.own.form (by cases l with | nil => exact absurd rfl hne | cons a r => simp)
  exact ⟨g, cap, h1, h2, h3⟩
theorem RowL.but2 {α : Type} {enc : α → List Value} {sz : Nat} {w w' : World} {X : Nat → Prop} {A : Option Addr} {n c : Nat} {l : List α} (h : RowL sz enc w (.slice A n c) l) (hB : But w w' X) (hx : ∀ b o, A = some ⟨b, o, none⟩ → ¬ X b) : RowL sz enc w' (.slice A n c) l := by
  obtain ⟨A', c', e, h⟩ := h
  cases e
  refine ⟨A, c, rfl, ?_⟩
  rcases h with h | ⟨b, o, rfl, hlt, hc⟩
  · exact .inl h
  · exact .inr ⟨b, o, rfl, Nat.lt_of_lt_of_le hlt hB.size, fun i x j u hi hu => (World.cell?_of_block (hB.block b hlt (hx b o rfl))).trans (hc i x j u hi hu)⟩
set_option maxRecDepth 100000 in
set_option maxHeartbeats 2000000 in
theorem cloneL_any (A : Option Addr) (c : Nat) (l : List Lg) (w : World) (hl : l.length ≤ 1000000) (hL : LegL w (.slice A l.length c) l) :
    Calls Tryz.prog 86 #[.slice A l.length c] w fun e w' => ∃ A' c', e = .returned (.slice A' l.length c') ∧ LegL w' (.slice A' l.length c') l ∧ l.length ≤ c' ∧ (A' = none ∨ ∃ g, A' = some ⟨g, 0, none⟩ ∧ w.heap.size ≤ g) ∧ Below w.heap.size w w' := by
  cases A with
  | none =>
    have h0 : l = [] := by
      obtain ⟨A', c', e, h⟩ := hL
      cases e
      rcases h with h | ⟨b, o, h, _⟩
      · exact h
      · cases h
    subst h0
    have n1 := nilL_yes 0 c w
    go_enter Tryz.func86, Tryz.ntmps86
    go_wp2
    go_ret
    exact ⟨none, 0, rfl, ⟨none, 0, rfl, .inl rfl⟩, Nat.le_refl _, .inl rfl, Below.refl _ _⟩
  | some ad =>
    have hb0 := bel_alloc w (.cells #[] legT)
    by_cases h0 : l = []
    · subst h0
      have n1 := nilL_no ad 0 c w
      go_enter Tryz.func86, Tryz.ntmps86
      go_wp2
      go_ret
      exact ⟨some ⟨w.heap.size, 0, none⟩, 0, rfl, ⟨_, 0, rfl, .inl rfl⟩, Nat.le_refl _, .inr ⟨_, rfl, Nat.le_refl _⟩, hb0⟩
    · have n1 := nilL_no ad l.length c w
      have hlp : 0 < l.length := List.length_pos_iff.2 h0
      obtain ⟨b, o, e, hlt, hc⟩ := (hL.more hb0).at0 h0
      cases e
      have HC := Lib.hid hc
      have HO := Lib.hid (ROwn.new (enc := encLg) (sz := 5) (B := w.heap.size) (w := w) (Nat.le_refl _) ([] : List Lg) (fun _ => rfl) (cs := #[]) rfl (by simp) (e := legT))
      have HL0 := Lib.hid h0
      clear h0 hL hc hlt
      go_enter Tryz.func86, Tryz.ntmps86
      go_wp2_with (refine wpList_rapps rtLg rfl _ _ rfl HO.out rfl b o l l.length c rfl rfl hlp HC.out (by simp; omega) ?_; intro v' w' hown hchg)
      go_ret
      rw [List.nil_append] at hown
      obtain ⟨g2, c2, rfl, hg2, _⟩ := ROwn.formG hown HL0.out
      exact ⟨some ⟨g2, 0, none⟩, c2, rfl, hown.rowL rtLg.len, ROwn.cap hown, .inr ⟨g2, rfl, hg2⟩, hb0.trans ((hchg.below HO.out).mono (Nat.le_refl _))⟩

end Go.Proofs.YtldillnjnjkkgaaGreatDoor

/- Walks of what On asks of a flight, of find at flights, and of On. -/
namespace Go.Proofs.YtldillnjnjkkgaaGreatDoor
open Go.RowKit Go.Shelf
set_option linter.unusedSimpArgs false
set_option linter.unusedVariables false

set_option maxRecDepth 100000 in
set_option maxHeartbeats 4000000 in
theorem on1_any (f : FV) (car : ByteArray) (num day : Int) (B1 B2 B3 : Nat) (W : World) (h0 : -9223372036854775808 ≤ day) (h1 : day ≤ 9223372036854775807)
    (z1 : W.cell? ⟨B1, 0, none⟩ = some (.string car)) (z2 : W.cell? ⟨B2, 0, none⟩ = some (.int .i64 num)) (z3 : W.cell? ⟨B3, 0, none⟩ = some (.int .i64 day)) :
    Calls Tryz.prog 84 #[encFl f, .pointer (some ⟨B1, 0, none⟩), .pointer (some ⟨B2, 0, none⟩), .pointer (some ⟨B3, 0, none⟩)] W fun e w' => e = .returned (.bool (onB car num day f)) ∧ Below W.heap.size W w' := by
  have hb0 := bel_alloc W (.cells #[.string f.car, .int .i64 f.num, .int .i64 f.pf, .int .i64 f.pt, .int .i64 f.pd, .slice f.A f.lg.length f.c] fliT)
  have y1 := bel_cell hb0 z1
  have y2 := bel_cell hb0 z2
  have y3 := bel_cell hb0 z3
  have q0 := (cells_new W #[.string f.car, .int .i64 f.num, .int .i64 f.pf, .int .i64 f.pt, .int .i64 f.pd, .slice f.A f.lg.length f.c] fliT 0).trans (show _ = some (.string f.car) from rfl)
  have q1 := (cells_new W #[.string f.car, .int .i64 f.num, .int .i64 f.pf, .int .i64 f.pt, .int .i64 f.pd, .slice f.A f.lg.length f.c] fliT 1).trans (show _ = some (.int .i64 f.num) from rfl)
  have q2 := (cells_new W #[.string f.car, .int .i64 f.num, .int .i64 f.pf, .int .i64 f.pt, .int .i64 f.pd, .slice f.A f.lg.length f.c] fliT 2).trans (show _ = some (.int .i64 f.pf) from rfl)
  have q3 := (cells_new W #[.string f.car, .int .i64 f.num, .int .i64 f.pf, .int .i64 f.pt, .int .i64 f.pd, .slice f.A f.lg.length f.c] fliT 3).trans (show _ = some (.int .i64 f.pt) from rfl)
  have q4 := (cells_new W #[.string f.car, .int .i64 f.num, .int .i64 f.pf, .int .i64 f.pt, .int .i64 f.pd, .slice f.A f.lg.length f.c] fliT 4).trans (show _ = some (.int .i64 f.pd) from rfl)
  have HH := Lib.hid (fun (q : Int × Int × Int) W => Per.has_any q.1 q.2.1 q.2.2 day W h0 h1)
  have HQ := Lib.hid (HH.out (f.pf, f.pt, f.pd))
  dsimp only at HQ
  clear z1 z2 z3 HH
  cases h1 : (f.car.toList == car.toList) with
  | false =>
    have HR : Hid (onB car num day f = false) := Lib.hid (by unfold onB; rw [h1]; rfl)
    go_enter Tryz.func84, Tryz.ntmps84
    go_wp2
    go_ret
    exact ⟨ret_bool HR.out.symm, hb0⟩
  | true =>
  cases h2 : (f.num == num) with
  | false =>
    have HR : Hid (onB car num day f = false) := Lib.hid (by unfold onB; rw [h1, h2]; rfl)
    go_enter Tryz.func84, Tryz.ntmps84
    go_wp2
    go_ret
    exact ⟨ret_bool HR.out.symm, hb0⟩
  | true =>
    have HR : Hid (onB car num day f = Per.hasQ (f.pf, f.pt, f.pd) day) := Lib.hid (by unfold onB; rw [h1, h2]; rfl)
    go_enter Tryz.func84, Tryz.ntmps84
    go_wp2_with (go_at_call 85; refine (HQ.out _).mono ?_; rintro e w1 ⟨rfl, hb1⟩)
    go_ret
    exact ⟨ret_bool HR.out.symm, hb0.trans (hb1.mono hb0.size)⟩
theorem eg_on1 : ∀ args w, (callFunc 84 args).run Tryz.prog w = .ok (.enter 84 args) w := enters_of Tryz.func84 (by kernel_rfl) rfl

theorem IdxF.find {p : FV → Bool} {L : List FV} {r : Int} (h : IdxF p L r) : (r = -1 ∧ L.find? p = none) ∨ ∃ (k : Nat) (y : FV), r = (k : Int) ∧ L[k]? = some y ∧ L.find? p = some y := by
  rcases h with ⟨h1, h2⟩ | ⟨k, y, h1, h2, h3, h4⟩
  · exact .inl ⟨h1, List.find?_eq_none.2 (fun x hx => by rw [h2 x hx]; simp)⟩
  · refine .inr ⟨k, y, h1, h2, ?_⟩
    obtain ⟨hlt, rfl⟩ := List.getElem?_eq_some_iff.1 h2
    rw [List.find?_eq_some_iff_getElem]
    refine ⟨h3, k, hlt, rfl, fun j hj => ?_⟩
    rw [h4 j _ hj (List.getElem?_eq_getElem (by omega))]
    rfl
set_option maxRecDepth 100000 in
set_option maxHeartbeats 8000000 in
theorem findF_any (g : Nat) (cb : Array Value) (A : Option Addr) (c : Nat) (L : List FV) (p : FV → Bool) (w : World) (eg : ∀ args w, (callFunc g args).run Tryz.prog w = .ok (.enter g args) w) (hl : L.length ≤ 100000)
    (hv : RowL 6 encF6 w (.slice A L.length c) L)
    (hf : ∀ (a : FV) (W : World), a ∈ L → Below w.heap.size w W → Calls Tryz.prog g (#[encFl a] ++ cb) W fun e w' => e = .returned (.bool (p a)) ∧ Below W.heap.size W w') :
    Calls Tryz.prog 83 #[.slice A L.length c, .func (.func g) #[] cb] w fun e w' => e = .returned (.tuple #[encFl ((L.find? p).getD fliZ), .bool (L.find? p).isSome]) ∧ Below w.heap.size w w' := by
  have hb0 := bel_alloc w (.cells #[.string noB, .int .i64 0, .int .i64 0, .int .i64 0, .int .i64 0, .slice none 0 0] fliT)
  have hN := heap_alloc_new w (.cells #[.string noB, .int .i64 0, .int .i64 0, .int .i64 0, .int .i64 0, .slice none 0 0] fliT)
  have KI := Lib.hid (indexF_any g cb A c L p (w.alloc (.cells #[.string noB, .int .i64 0, .int .i64 0, .int .i64 0, .int .i64 0, .slice none 0 0] fliT)) eg hl (hv.more hb0) (fun a W ha hb => hf a W ha (hb0.trans (hb.mono hb0.size))))
  have HV := Lib.hid (hv.more hb0)
  have HB0 := Lib.hid hb0
  clear hv hf hb0
  go_enter Tryz.func83, Tryz.ntmps83
  go_upto_region 1 with fail
  generalize hw5 : w.alloc (.cells #[.string noB, .int .i64 0, .int .i64 0, .int .i64 0, .int .i64 0, .slice none 0 0] fliT) = w5 at *
  clear hw5
  have HN := Lib.hid hN
  have HLT5 : Hid (w.heap.size < w5.heap.size) := Lib.hid (lt_of_cell2 hN)
  clear hN
  go_wp2_with (go_at_call 164; refine KI.out.mono ?_; rintro e w1 ⟨r, rfl, hr, hb1⟩; refine Hid.out ?_)
  have hS : SW w5 w1 := hb1
  rcases hr.out.find with ⟨rfl, hfd⟩ | ⟨k, y, rfl, hk, hfd⟩
  · refine Lib.hid ?_
    have HFD := Lib.hid hfd
    clear hfd hr
    go_upto_region 4 with fail
    have hbz := bel_alloc w1 (.cells #[.string noB, .int .i64 0, .int .i64 0, .int .i64 0, .int .i64 0, .slice none 0 0] fliT)
    have hnz := heap_alloc_new w1 (.cells #[.string noB, .int .i64 0, .int .i64 0, .int .i64 0, .int .i64 0, .slice none 0 0] fliT)
    generalize hw6 : w1.alloc (.cells #[.string noB, .int .i64 0, .int .i64 0, .int .i64 0, .int .i64 0, .slice none 0 0] fliT) = w6 at *
    clear hw6
    have l0 := (cell_of_row w6 _ 0 _ _ (0, 0) hnz).trans (show _ = some _ from rfl)
    have l1 := (cell_of_row w6 _ 1 _ _ (0, 0) hnz).trans (show _ = some _ from rfl)
    have l2 := (cell_of_row w6 _ 2 _ _ (0, 0) hnz).trans (show _ = some _ from rfl)
    have l3 := (cell_of_row w6 _ 3 _ _ (0, 0) hnz).trans (show _ = some _ from rfl)
    have l4 := (cell_of_row w6 _ 4 _ _ (0, 0) hnz).trans (show _ = some _ from rfl)
    have l5 := (cell_of_row w6 _ 5 _ _ (0, 0) hnz).trans (show _ = some _ from rfl)
    have hS6 := Below.trans hS (Below.mono hbz hS.size)
    have hx := (Below.block hS6 _ HLT5.out).trans HN.out
    have hwb := HB0.out.trans (Below.mono hS6 HB0.out.size)
    clear hS hS6 hbz hnz hb1
    have n0 := (cell_of_row _ _ 0 _ _ (0, 0) hx).trans (show _ = some _ from rfl)
    have n1 := (cell_of_row _ _ 1 _ _ (0, 0) hx).trans (show _ = some _ from rfl)
    have n2 := (cell_of_row _ _ 2 _ _ (0, 0) hx).trans (show _ = some _ from rfl)
    have n3 := (cell_of_row _ _ 3 _ _ (0, 0) hx).trans (show _ = some _ from rfl)
    have n4 := (cell_of_row _ _ 4 _ _ (0, 0) hx).trans (show _ = some _ from rfl)
    have n5 := (cell_of_row _ _ 5 _ _ (0, 0) hx).trans (show _ = some _ from rfl)
    have z0 := frozen_of_row _ _ 0 _ _ hx
    have z1 := frozen_of_row _ _ 1 _ _ hx
    have z2 := frozen_of_row _ _ 2 _ _ hx
    have z3 := frozen_of_row _ _ 3 _ _ hx
    have z4 := frozen_of_row _ _ 4 _ _ hx
    have z5 := frozen_of_row _ _ 5 _ _ hx
    have HX2 : Hid (∀ W, W = S6 w6 w.heap.size (.string noB) (.int .i64 0) (.int .i64 0) (.int .i64 0) (.int .i64 0) (.slice none 0 0) → W.heap[w.heap.size]? = some (.cells #[.string noB, .int .i64 0, .int .i64 0, .int .i64 0, .int .i64 0, .slice none 0 0] fliT (0, 0)) ∧ Below w.heap.size w W ∧ But w6 W (fun k => k = w.heap.size)) := Lib.hid (fun W h => by rw [h]; exact ⟨S6.heap hx _ _ _ _ _ _, hwb.trans ((S6.but _ _ _ _ _ _ _ _).below (hwb).size (fun k hk => by omega)), S6.but _ _ _ _ _ _ _ _⟩)
    clear hx hwb
    go_wp2
    obtain ⟨hxx, hbb, hbu⟩ := HX2.out _ rfl
    unfold S6 at hxx hbb hbu
    clear HX2
    generalize hWW : (((((w6.setCell ⟨w.heap.size, 0, none⟩ (.string noB)).setCell ⟨w.heap.size, 1, none⟩ (.int .i64 0)).setCell ⟨w.heap.size, 2, none⟩ (.int .i64 0)).setCell ⟨w.heap.size, 3, none⟩ (.int .i64 0)).setCell ⟨w.heap.size, 4, none⟩ (.int .i64 0)).setCell ⟨w.heap.size, 5, none⟩ (.slice none 0 0) = WW at *
    clear hWW n0 n1 n2 n3 n4 n5 z0 z1 z2 z3 z4 z5
    have c0 := (cell_of_row WW _ 0 _ _ (0, 0) hxx).trans (show _ = some _ from rfl)
    have c1 := (cell_of_row WW _ 1 _ _ (0, 0) hxx).trans (show _ = some _ from rfl)
    have c2 := (cell_of_row WW _ 2 _ _ (0, 0) hxx).trans (show _ = some _ from rfl)
    have c3 := (cell_of_row WW _ 3 _ _ (0, 0) hxx).trans (show _ = some _ from rfl)
    have c4 := (cell_of_row WW _ 4 _ _ (0, 0) hxx).trans (show _ = some _ from rfl)
    have c5 := (cell_of_row WW _ 5 _ _ (0, 0) hxx).trans (show _ = some _ from rfl)
    rw [HFD.out]
    refine bodyPost_ret (v := .tuple #[encFl fliZ, .bool false]) ?_ rfl ⟨rfl, hbb⟩
    simp [results, Tryz.results83, go_sem, c0, c1, c2, c3, c4, c5, fliZ]
  · refine Lib.hid ?_
    have HFD := Lib.hid hfd
    have hi2 : (k : Int) < (L.length : Int) := by have := (List.getElem?_eq_some_iff.1 hk).1; omega
    obtain ⟨b, o, e1, hbl, hcc⟩ := RowL.at6 (HV.out.more hS) hk
    cases e1
    have d0 := hcc 0 _ rfl
    have d1 := hcc 1 _ rfl
    have d2 := hcc 2 _ rfl
    have d3 := hcc 3 _ rfl
    have d4 := hcc 4 _ rfl
    have d5 := hcc 5 _ rfl
    rw [Nat.add_zero] at d0
    clear hfd hcc hk hbl hr
    go_upto_region 5 with fail
    have hx := (Below.block hS _ HLT5.out).trans HN.out
    have hwb := HB0.out.trans (Below.mono hS HB0.out.size)
    clear hS hb1
    have n0 := (cell_of_row _ _ 0 _ _ (0, 0) hx).trans (show _ = some _ from rfl)
    have n1 := (cell_of_row _ _ 1 _ _ (0, 0) hx).trans (show _ = some _ from rfl)
    have n2 := (cell_of_row _ _ 2 _ _ (0, 0) hx).trans (show _ = some _ from rfl)
    have n3 := (cell_of_row _ _ 3 _ _ (0, 0) hx).trans (show _ = some _ from rfl)
    have n4 := (cell_of_row _ _ 4 _ _ (0, 0) hx).trans (show _ = some _ from rfl)
    have n5 := (cell_of_row _ _ 5 _ _ (0, 0) hx).trans (show _ = some _ from rfl)
    have z0 := frozen_of_row _ _ 0 _ _ hx
    have z1 := frozen_of_row _ _ 1 _ _ hx
    have z2 := frozen_of_row _ _ 2 _ _ hx
    have z3 := frozen_of_row _ _ 3 _ _ hx
    have z4 := frozen_of_row _ _ 4 _ _ hx
    have z5 := frozen_of_row _ _ 5 _ _ hx
    have HX2 : Hid (∀ W, W = S6 w1 w.heap.size (.string y.car) (.int .i64 y.num) (.int .i64 y.pf) (.int .i64 y.pt) (.int .i64 y.pd) (.slice y.A y.lg.length y.c) → W.heap[w.heap.size]? = some (.cells #[.string y.car, .int .i64 y.num, .int .i64 y.pf, .int .i64 y.pt, .int .i64 y.pd, .slice y.A y.lg.length y.c] fliT (0, 0)) ∧ Below w.heap.size w W ∧ But w1 W (fun k => k = w.heap.size)) := Lib.hid (fun W h => by rw [h]; exact ⟨S6.heap hx _ _ _ _ _ _, hwb.trans ((S6.but _ _ _ _ _ _ _ _).below (hwb).size (fun k hk => by omega)), S6.but _ _ _ _ _ _ _ _⟩)
    clear hx hwb
    go_wp2
    obtain ⟨hxx, hbb, hbu⟩ := HX2.out _ rfl
    unfold S6 at hxx hbb hbu
    clear HX2
    generalize hWW : (((((w1.setCell ⟨w.heap.size, 0, none⟩ (.string y.car)).setCell ⟨w.heap.size, 1, none⟩ (.int .i64 y.num)).setCell ⟨w.heap.size, 2, none⟩ (.int .i64 y.pf)).setCell ⟨w.heap.size, 3, none⟩ (.int .i64 y.pt)).setCell ⟨w.heap.size, 4, none⟩ (.int .i64 y.pd)).setCell ⟨w.heap.size, 5, none⟩ (.slice y.A y.lg.length y.c) = WW at *
    clear hWW n0 n1 n2 n3 n4 n5 z0 z1 z2 z3 z4 z5
    have c0 := (cell_of_row WW _ 0 _ _ (0, 0) hxx).trans (show _ = some _ from rfl)
    have c1 := (cell_of_row WW _ 1 _ _ (0, 0) hxx).trans (show _ = some _ from rfl)
    have c2 := (cell_of_row WW _ 2 _ _ (0, 0) hxx).trans (show _ = some _ from rfl)
    have c3 := (cell_of_row WW _ 3 _ _ (0, 0) hxx).trans (show _ = some _ from rfl)
    have c4 := (cell_of_row WW _ 4 _ _ (0, 0) hxx).trans (show _ = some _ from rfl)
    have c5 := (cell_of_row WW _ 5 _ _ (0, 0) hxx).trans (show _ = some _ from rfl)
    rw [HFD.out]
    refine bodyPost_ret (v := .tuple #[encFl y, .bool true]) ?_ rfl ⟨rfl, hbb⟩
    simp [results, Tryz.results83, go_sem, c0, c1, c2, c3, c4, c5]

end Go.Proofs.YtldillnjnjkkgaaGreatDoor

/- Walk of On. -/
namespace Go.Proofs.YtldillnjnjkkgaaGreatDoor
open Go.RowKit Go.Shelf
set_option linter.unusedSimpArgs false
set_option linter.unusedVariables false

/-- a flight whose legs lie elsewhere -/
def FV.re (f : FV) (A : Option Addr) (c : Nat) : FV := { f with A := A, c := c }
set_option maxRecDepth 100000 in
set_option maxHeartbeats 8000000 in
theorem on_any (v : Value) (l : List FV) (car : ByteArray) (num day : Int) (w : World) (hv : TblL w v l) (hn : l.length ≤ 1000) (hn2 : ∀ f ∈ l, f.lg.length ≤ 1000) (h0 : -9223372036854775808 ≤ day) (h1 : day ≤ 9223372036854775807) :
    Calls Tryz.prog 26 #[v, .string car, .int .i64 num, .int .i64 day] w fun e w' => ∃ A c, e = .returned (.tuple #[encFl (((onF l car num day).getD fliZ).re A c), .bool (onF l car num day).isSome]) ∧ LegL w' (.slice A ((onF l car num day).getD fliZ).lg.length c) ((onF l car num day).getD fliZ).lg ∧ ((onF l car num day).getD fliZ).lg.length ≤ c ∧ Below w.heap.size w w' := by
  obtain ⟨A, c, rfl, hvc⟩ := id hv.row
  have hb1 := bel_alloc w (.cells #[.string car] 9)
  have hb2 := bel_alloc (w.alloc (.cells #[.string car] 9)) (.cells #[.int .i64 num] 3)
  have hb3 := bel_alloc ((w.alloc (.cells #[.string car] 9)).alloc (.cells #[.int .i64 num] 3)) (.cells #[.int .i64 day] 3)
  have hb4 := bel_alloc (((w.alloc (.cells #[.string car] 9)).alloc (.cells #[.int .i64 num] 3)).alloc (.cells #[.int .i64 day] 3)) (.cells #[.string noB, .int .i64 0, .int .i64 0, .int .i64 0, .int .i64 0, .slice none 0 0] fliT)
  have hb34 := hb3.trans (hb4.mono hb3.size)
  have hb24 := hb2.trans (hb34.mono hb2.size)
  have hb0 := hb1.trans (hb24.mono hb1.size)
  have q1 := bel_cell hb24 ((cells_new w #[.string car] 9 0).trans (show _ = some (Value.string car) from rfl))
  have q2 := bel_cell hb34 ((cells_new (w.alloc (.cells #[.string car] 9)) #[.int .i64 num] 3 0).trans (show _ = some (Value.int .i64 num) from rfl))
  have q3 := bel_cell hb4 ((cells_new ((w.alloc (.cells #[.string car] 9)).alloc (.cells #[.int .i64 num] 3)) #[.int .i64 day] 3 0).trans (show _ = some (Value.int .i64 day) from rfl))
  have hN := heap_alloc_new (((w.alloc (.cells #[.string car] 9)).alloc (.cells #[.int .i64 num] 3)).alloc (.cells #[.int .i64 day] 3)) (.cells #[.string noB, .int .i64 0, .int .i64 0, .int .i64 0, .int .i64 0, .slice none 0 0] fliT)
  simp only [World.size_alloc] at q1 q2 q3 hN
  have HV := Lib.hid (hv.more hb0)
  have HB0 := Lib.hid hb0
  obtain ⟨g, hg⟩ : ∃ g, g = (onF l car num day).getD fliZ := ⟨_, rfl⟩
  obtain ⟨s, hs⟩ : ∃ s, s = (onF l car num day).isSome := ⟨_, rfl⟩
  have HG := Lib.hid hg
  have HLG : Hid (∀ W, TblL W (.slice A l.length c) l → LegL W (.slice g.A g.lg.length g.c) g.lg) := Lib.hid (fun W h => by
    rw [hg]
    cases ho : onF l car num day with
    | none => exact ⟨none, 0, rfl, .inl rfl⟩
    | some f => exact h.legs f (List.mem_of_find?_eq_some ho))
  have HLN : Hid (g.lg.length ≤ 1000000) := Lib.hid (by
    rw [hg]
    cases ho : onF l car num day with
    | none => exact Nat.zero_le _
    | some f => exact Nat.le_trans (hn2 f (List.mem_of_find?_eq_some ho)) (by omega))
  rw [← hg, ← hs]
  clear hvc hv hb1 hb2 hb3 hb4 hb34 hb24
  go_enter Tryz.func26, Tryz.ntmps26
  go_upto_region 1 with fail
  generalize hw5 : ((((w.alloc (.cells #[.string car] 9)).alloc (.cells #[.int .i64 num] 3)).alloc (.cells #[.int .i64 day] 3)).alloc (.cells #[.string noB, .int .i64 0, .int .i64 0, .int .i64 0, .int .i64 0, .slice none 0 0] fliT)) = w5 at *
  clear hw5
  have KF := Lib.hid (findF_any 84 #[.pointer (some ⟨w.heap.size, 0, none⟩), .pointer (some ⟨w.heap.size + 1, 0, none⟩), .pointer (some ⟨w.heap.size + 1 + 1, 0, none⟩)] A c l (onB car num day) w5 eg_on1 (by omega) HV.out.row (fun a W ha hb => on1_any a car num day _ _ _ W h0 h1 (bel_cell hb q1) (bel_cell hb q2) (bel_cell hb q3)))
  change Hid (Calls _ _ _ _ (fun e w' => e = .returned (.tuple #[encFl ((onF l car num day).getD fliZ), .bool (onF l car num day).isSome]) ∧ Below w5.heap.size w5 w')) at KF
  rw [← hg, ← hs] at KF
  have HN := Lib.hid hN
  have HLT5 : Hid (w.heap.size + 1 + 1 + 1 < w5.heap.size) := Lib.hid (lt_of_cell2 hN)
  clear hN hg hs q1 q2 q3 hb0
  go_wp2_with (go_at_call 83; refine KF.out.mono ?_; rintro e w1 ⟨rfl, hbf⟩; refine Hid.out ?_)
  refine Lib.hid ?_
  obtain ⟨car', num', pf, pt, pd, A1, cp1, lg⟩ := g
  dsimp only at *
  have hS1 : SW w5 w1 := hbf
  have HW1 := Lib.hid (HB0.out.trans (Below.mono hS1 HB0.out.size))
  have hx7 := heap_alloc_new w1 (.cells #[.string car', .int .i64 num', .int .i64 pf, .int .i64 pt, .int .i64 pd, .slice A1 lg.length cp1] fliT)
  have hb7 := bel_alloc w1 (.cells #[.string car', .int .i64 num', .int .i64 pf, .int .i64 pt, .int .i64 pd, .slice A1 lg.length cp1] fliT)
  go_upto_region 2 with fail
  generalize hw7 : w1.alloc (.cells #[.string car', .int .i64 num', .int .i64 pf, .int .i64 pt, .int .i64 pd, .slice A1 lg.length cp1] fliT) = w7 at *
  clear hw7
  have c5 := (cell_of_row w7 _ 5 _ _ (0, 0) hx7).trans (show _ = some (Value.slice A1 lg.length cp1) from rfl)
  have HX7 := Lib.hid hx7
  have HB7 := Lib.hid hb7
  have HW7 := Lib.hid (HW1.out.trans (hb7.mono HW1.out.size))
  have hsz1 : w.heap.size ≤ w1.heap.size := HW1.out.size
  have h17 : w1.heap.size < w7.heap.size := lt_of_cell2 hx7
  have hnr : w.heap.size + 1 + 1 + 1 < w1.heap.size := Nat.lt_of_lt_of_le HLT5.out hbf.size
  have KC := Lib.hid (cloneL_any A1 cp1 lg w7 HLN.out (HLG.out w7 (HV.out.more (Below.trans hS1 (Below.mono hb7 hS1.size)))))
  have HXR := Lib.hid ((hb7.block _ hnr).trans ((hbf.block _ HLT5.out).trans HN.out))
  clear hx7 hb7 hbf hS1
  go_wp2_with (go_at_call 86; refine KC.out.mono ?_; rintro e w8 ⟨A2, k2, rfl, hL8, hk2, hnew, hb8⟩; refine Hid.out ?_)
  refine Lib.hid ?_
  have hx8 := (hb8.block _ h17).trans HX7.out
  have d5 := (cell_of_row w8 _ 5 _ _ (0, 0) hx8).trans (show _ = some _ from rfl)
  have fz5 := frozen_of_row w8 _ 5 _ _ hx8
  have hx9 := heap_setCell_same w8 w1.heap.size 5 _ fliT (.slice A2 lg.length k2) hx8
  have HL8 := Lib.hid hL8
  have HNW := Lib.hid hnew
  have HXR8 := Lib.hid ((hb8.block _ (Nat.lt_trans hnr h17)).trans HXR.out)
  have hx9r := (show (w8.setCell ⟨w1.heap.size, 5, none⟩ (.slice A2 lg.length k2)).heap[w.heap.size + 1 + 1 + 1]? = _ from ((But.setCell w8 w1.heap.size 5 (.slice A2 lg.length k2)).block _ (lt_of_cell2 HXR8.out) (by omega)).trans HXR8.out)
  have HX9 := Lib.hid hx9
  have HX9R := Lib.hid hx9r
  have HB9 := Lib.hid (HW7.out.trans (((hb8.mono HW7.out.size)).trans ((But.setCell w8 w1.heap.size 5 (.slice A2 lg.length k2)).below (Nat.le_trans HW7.out.size hb8.size) (fun k hk => by omega))))
  have HBT := Lib.hid (But.setCell w8 w1.heap.size 5 (.slice A2 lg.length k2))
  clear hx8 hL8 hnew hx9 hx9r hb8
  go_upto_region 3 with fail
  generalize hw9 : w8.setCell ⟨w1.heap.size, 5, none⟩ (.slice A2 lg.length k2) = w9 at *
  clear hw9 d5 fz5
  have g0 := (cell_of_row w9 _ 0 _ _ (0, 0) HX9.out).trans (show _ = some (.string car') from rfl)
  have g1 := (cell_of_row w9 _ 1 _ _ (0, 0) HX9.out).trans (show _ = some (.int .i64 num') from rfl)
  have g2 := (cell_of_row w9 _ 2 _ _ (0, 0) HX9.out).trans (show _ = some (.int .i64 pf) from rfl)
  have g3 := (cell_of_row w9 _ 3 _ _ (0, 0) HX9.out).trans (show _ = some (.int .i64 pt) from rfl)
  have g4 := (cell_of_row w9 _ 4 _ _ (0, 0) HX9.out).trans (show _ = some (.int .i64 pd) from rfl)
  have g5 := (cell_of_row w9 _ 5 _ _ (0, 0) HX9.out).trans (show _ = some (.slice A2 lg.length k2) from rfl)
  have hx := HX9R.out
  have hwb := HB9.out
  have n0 := (cell_of_row _ _ 0 _ _ (0, 0) hx).trans (show _ = some _ from rfl)
  have n1 := (cell_of_row _ _ 1 _ _ (0, 0) hx).trans (show _ = some _ from rfl)
  have n2 := (cell_of_row _ _ 2 _ _ (0, 0) hx).trans (show _ = some _ from rfl)
  have n3 := (cell_of_row _ _ 3 _ _ (0, 0) hx).trans (show _ = some _ from rfl)
  have n4 := (cell_of_row _ _ 4 _ _ (0, 0) hx).trans (show _ = some _ from rfl)
  have n5 := (cell_of_row _ _ 5 _ _ (0, 0) hx).trans (show _ = some _ from rfl)
  have z0 := frozen_of_row _ _ 0 _ _ hx
  have z1 := frozen_of_row _ _ 1 _ _ hx
  have z2 := frozen_of_row _ _ 2 _ _ hx
  have z3 := frozen_of_row _ _ 3 _ _ hx
  have z4 := frozen_of_row _ _ 4 _ _ hx
  have z5 := frozen_of_row _ _ 5 _ _ hx
  have HX2 : Hid (∀ W, W = S6 w9 (w.heap.size + 1 + 1 + 1) (.string car') (.int .i64 num') (.int .i64 pf) (.int .i64 pt) (.int .i64 pd) (.slice A2 lg.length k2) → W.heap[(w.heap.size + 1 + 1 + 1)]? = some (.cells #[.string car', .int .i64 num', .int .i64 pf, .int .i64 pt, .int .i64 pd, .slice A2 lg.length k2] fliT (0, 0)) ∧ Below w.heap.size w W ∧ But w9 W (fun k => k = (w.heap.size + 1 + 1 + 1))) := Lib.hid (fun W h => by rw [h]; exact ⟨S6.heap hx _ _ _ _ _ _, hwb.trans ((S6.but _ _ _ _ _ _ _ _).below (hwb).size (fun k hk => by omega)), S6.but _ _ _ _ _ _ _ _⟩)
  clear hx hwb
  go_wp2
  obtain ⟨hxx, hbb, hbu⟩ := HX2.out _ rfl
  unfold S6 at hxx hbb hbu
  clear HX2
  generalize hWW : (((((w9.setCell ⟨(w.heap.size + 1 + 1 + 1), 0, none⟩ (.string car')).setCell ⟨(w.heap.size + 1 + 1 + 1), 1, none⟩ (.int .i64 num')).setCell ⟨(w.heap.size + 1 + 1 + 1), 2, none⟩ (.int .i64 pf)).setCell ⟨(w.heap.size + 1 + 1 + 1), 3, none⟩ (.int .i64 pt)).setCell ⟨(w.heap.size + 1 + 1 + 1), 4, none⟩ (.int .i64 pd)).setCell ⟨(w.heap.size + 1 + 1 + 1), 5, none⟩ (.slice A2 lg.length k2) = w10 at *
  clear hWW n0 n1 n2 n3 n4 n5 z0 z1 z2 z3 z4 z5
  have c0 := (cell_of_row w10 _ 0 _ _ (0, 0) hxx).trans (show _ = some _ from rfl)
  have c1 := (cell_of_row w10 _ 1 _ _ (0, 0) hxx).trans (show _ = some _ from rfl)
  have c2 := (cell_of_row w10 _ 2 _ _ (0, 0) hxx).trans (show _ = some _ from rfl)
  have c3 := (cell_of_row w10 _ 3 _ _ (0, 0) hxx).trans (show _ = some _ from rfl)
  have c4 := (cell_of_row w10 _ 4 _ _ (0, 0) hxx).trans (show _ = some _ from rfl)
  have c5 := (cell_of_row w10 _ 5 _ _ (0, 0) hxx).trans (show _ = some _ from rfl)
  have hLL : LegL w10 (.slice A2 lg.length k2) lg := by
    refine (HL8.out.but2 HBT.out ?_).but2 hbu ?_
    · rintro b o rfl
      rcases HNW.out with h | ⟨g', h, hg'⟩
      · cases h
      · cases h; omega
    · rintro b o rfl
      rcases HNW.out with h | ⟨g', h, hg'⟩
      · cases h
      · cases h; omega
  refine bodyPost_ret (v := .tuple #[encFl (FV.re ⟨car', num', pf, pt, pd, A1, cp1, lg⟩ A2 k2), .bool s]) ?_ rfl ⟨A2, k2, rfl, hLL, hk2, hbb⟩
  simp [results, Tryz.results26, go_sem, c0, c1, c2, c3, c4, c5, FV.re]


end Go.Proofs.YtldillnjnjkkgaaGreatDoor

/- On, told with the flight as one value; walks of Differ. -/
namespace Go.Proofs.YtldillnjnjkkgaaGreatDoor
open Go.RowKit Go.Shelf
set_option linter.unusedSimpArgs false
set_option linter.unusedVariables false

abbrev intT : TypeId := 3
def encI1 (n : Int) : List Value := [.int .i64 n]
theorem rtI1 : RT Tryz.prog 69 intT 1 encI1 where
  ht := Tryz.underlying69
  info := ⟨.int .i64 0, 8, by kernel_rfl, rfl, by omega⟩
  len x := rfl
  one x u hu := by simp [encI1] at hu; rcases hu with rfl; rfl
  pos := by omega
/-- the cells of a flight -/
abbrev fliX (g : FV) (A : Option Addr) (c : Nat) : Array Value := #[.string g.car, .int .i64 g.num, .int .i64 g.pf, .int .i64 g.pt, .int .i64 g.pd, .slice A g.lg.length c]
def OnX (g : FV) (s : Bool) (w : World) (e : Ending) (w' : World) : Prop := ∃ X A c, e = .returned (.tuple #[.agg X, .bool s]) ∧ Hid (X = fliX g A c) ∧ LegL w' (.slice A g.lg.length c) g.lg ∧ Below w.heap.size w w'
theorem info_fli : (Tryz.prog.info? fliT).map (·.size) = some 6 := by kernel_rfl
theorem store_fli {g : FV} {A : Option Addr} {c : Nat} {X : Array Value} (hX : Hid (X = fliX g A c)) (w : World) :
    (storeCells ⟨w.heap.size, 0, none⟩ X.toList 0).run Tryz.prog (w.alloc (.cells #[.string noB, .int .i64 0, .int .i64 0, .int .i64 0, .int .i64 0, .slice none 0 0] fliT)) = .ok () (w.alloc (.cells X fliT)) := by
  have e := hX.out
  subst e
  exact run_storeCells_new w fliT _ _ info_fli rfl (by simp [Value.oneCell'])
theorem on_x (v : Value) (l : List FV) (car : ByteArray) (num day : Int) (w : World) (hv : TblL w v l) (hn : l.length ≤ 1000) (hn2 : ∀ f ∈ l, f.lg.length ≤ 1000) (h0 : -9223372036854775808 ≤ day) (h1 : day ≤ 9223372036854775807) :
    Calls Tryz.prog 26 #[v, .string car, .int .i64 num, .int .i64 day] w (OnX ((onF l car num day).getD fliZ) (onF l car num day).isSome w) :=
  (on_any v l car num day w hv hn hn2 h0 h1).mono (by rintro e w' ⟨A, c, rfl, hL, _, hb⟩; exact ⟨_, A, c, rfl, Lib.hid rfl, hL, hb⟩)
theorem ron_x (v : Value) (l : List FV) (car : ByteArray) (num day : Int) (w : World) (hv : TblL w v l) (hn : l.length ≤ 1000) (hn2 : ∀ f ∈ l, f.lg.length ≤ 1000) (h0 : -9223372036854775808 ≤ day) (h1 : day ≤ 9223372036854775807) :
    Calls Tryz.prog 27 #[v, .string car, .int .i64 num, .int .i64 day] w (OnX ((onF l car num day).getD fliZ) (onF l car num day).isSome w) :=
  (ron_any v l car num day w hv.row hn h0 h1).mono (by
    rintro e w' ⟨rfl, hb⟩
    refine ⟨_, _, _, rfl, Lib.hid rfl, ?_, hb⟩
    cases ho : onF l car num day with
    | none => exact ⟨none, 0, rfl, .inl rfl⟩
    | some f => exact (hv.legs f (List.mem_of_find?_eq_some ho)).more hb)
theorem on_lg {l : List FV} {car : ByteArray} {num day : Int} (hn2 : ∀ f ∈ l, f.lg.length ≤ 1000) : ((onF l car num day).getD fliZ).lg.length ≤ 1000 := by
  cases ho : onF l car num day with
  | none => exact Nat.zero_le _
  | some f => exact hn2 f (List.mem_of_find?_eq_some ho)
theorem difL_take (a b : List FV) (car : ByteArray) (num : Int) (D : List Int) {k : Nat} {d : Int} (h : D[k]? = some d) : difL a b car num (D.take (k + 1)) = if difB a b car num d then difL a b car num (D.take k) ++ [d] else difL a b car num (D.take k) := by
  obtain ⟨hk, rfl⟩ := List.getElem?_eq_some_iff.1 h
  rw [← List.take_append_getElem hk]
  unfold difL
  rw [List.filter_append]
  by_cases hd : difB a b car num D[k] = true
  · rw [if_pos hd, List.filter_cons_of_pos hd]; rfl
  · rw [if_neg hd, List.filter_cons_of_neg hd]; simp
theorem difL_le (a b : List FV) (car : ByteArray) (num : Int) (D : List Int) : (difL a b car num D).length ≤ D.length := List.length_filter_le _ _

set_option maxRecDepth 100000 in
set_option maxHeartbeats 8000000 in
theorem differ_any (u v : Value) (a b : List FV) (car : ByteArray) (num : Int) (q : Int × Int × Int) (w : World) (ha : TblL w u a) (hb : TblL w v b) (la : a.length ≤ 1000) (lb : b.length ≤ 1000) (na : ∀ f ∈ a, f.lg.length ≤ 1000) (nb : ∀ f ∈ b, f.lg.length ≤ 1000)
    (hq0 : -9223372036854775808 ≤ q.1) (hq1 : q.1 ≤ 9223372036854775807) :
    Calls Tryz.prog 37 #[u, v, .string car, .int .i64 num, .agg #[.int .i64 q.1, .int .i64 q.2.1, .int .i64 q.2.2]] w fun e w' => ∃ r, e = .returned r ∧ RowL 1 encI1 w' r (difL a b car num (Per.daysQ q)) ∧ Below w.heap.size w w' := by
  obtain ⟨qf, qt, qd⟩ := q
  dsimp only at *
  have hb0 := bel_alloc w (.cells #[.int .i64 qf, .int .i64 qt, .int .i64 qd] 23)
  have q0 := (cells_new w #[.int .i64 qf, .int .i64 qt, .int .i64 qd] 23 0).trans (show _ = some (Value.int .i64 qf) from rfl)
  have q1 := (cells_new w #[.int .i64 qf, .int .i64 qt, .int .i64 qd] 23 1).trans (show _ = some (Value.int .i64 qt) from rfl)
  have q2 := (cells_new w #[.int .i64 qf, .int .i64 qt, .int .i64 qd] 23 2).trans (show _ = some (Value.int .i64 qd) from rfl)
  have HA := Lib.hid (ha.more hb0)
  have HB := Lib.hid (hb.more hb0)
  have HB0 := Lib.hid hb0
  obtain ⟨D, hD⟩ : ∃ D, D = Per.daysQ (qf, qt, qd) := ⟨_, rfl⟩
  have HBD : Hid (∀ d ∈ D, 0 ≤ d ∧ d < 36525) := Lib.hid (by rw [hD]; exact fun d => days_bd)
  have hDl : D.length ≤ 800 := by rw [hD]; exact Per.daysQ_len _
  have KD : Hid (∀ W, Calls Tryz.prog 98 #[.agg #[.int .i64 qf, .int .i64 qt, .int .i64 qd]] W fun e w' => ∃ v, e = .returned v ∧ Per.IntL w' v (Per.daysQ (qf, qt, qd)) ∧ Below W.heap.size W w') := Lib.hid (fun W => pdays_any qf qt qd W)
  rw [← hD] at KD
  rw [← hD]
  have KOA := Lib.hid (fun d W (h : TblL W u a) (h0 : 0 ≤ d ∧ d < 36525) => on_x u a car num d W h la na (by omega) (by omega))
  have KOB := Lib.hid (fun d W (h : TblL W v b) (h0 : 0 ≤ d ∧ d < 36525) => on_x v b car num d W h lb nb (by omega) (by omega))
  have NA := Lib.hid (fun d => on_lg (car := car) (num := num) (day := d) na)
  have NB := Lib.hid (fun d => on_lg (car := car) (num := num) (day := d) nb)
  clear hD ha hb na nb hb0 hq0 hq1
  go_enter Tryz.func37, Tryz.ntmps37
  go_upto_region 1 with fail
  generalize w.alloc (.cells #[.int .i64 qf, .int .i64 qt, .int .i64 qd] 23) = w5 at *
  go_wp2_with (go_at_call 98; refine (KD.out _).mono ?_; rintro e w2 ⟨v2, rfl, hI, hbd⟩; obtain ⟨A2, c2, rfl, _⟩ := id hI)
  have HI := Lib.hid hI
  have hB2 : Below w.heap.size w w2 := HB0.out.trans (hbd.mono HB0.out.size)
  have HB2 := Lib.hid hB2
  have HAA := Lib.hid (HA.out.more hbd)
  have HBB := Lib.hid (HB.out.more hbd)
  have hwl : w.heap.size ≤ w2.heap.size := hB2.size
  clear q0 q1 q2 hI KD hB2 hbd HB0 HA HB
  go_loopw [11, 21] (fun v0 vi wr => ∃ k : Nat, k ≤ D.length ∧ vi = .int .i64 k ∧ Hid (ROwn intT 1 encI1 w2.heap.size wr v0 (difL a b car num (D.take k)) ∧ Below w2.heap.size w2 wr)) (fun _ vi _ => D.length - (intOf vi).toNat)
  case atStart => exact ⟨0, Nat.zero_le _, rfl, Lib.hid ⟨ROwn.nil (Nat.le_refl _), Below.refl _ _⟩⟩
  case round =>
    obtain ⟨k, hk, rfl, HK⟩ := hrel
    by_cases hlt : k < D.length
    · obtain ⟨d, hd⟩ : ∃ d, D[k]? = some d := ⟨_, List.getElem?_eq_getElem hlt⟩
      have i2 : (k : Int) < (D.length : Int) := by omega
      obtain ⟨hO, hbk⟩ := HK.out
      have hIk : Per.IntL wr (.slice A2 D.length c2) D := HI.out.more hbk
      obtain ⟨b2, o2, rfl, hb2, hc2⟩ := IntL.at1 hIk hlt
      have hd0 := (hc2 k hlt).trans (congrArg (fun x => some (Value.int .i64 x)) (List.getElem?_eq_some_iff.1 hd).2)
      have hdb := HBD.out d (List.mem_of_getElem? hd)
      have HD := Lib.hid (difL_take a b car num D hd)
      have HDB : Hid (0 ≤ d ∧ d < 36525) := Lib.hid hdb
      have HLN : Hid ((difL a b car num (D.take k)).length ≤ 100000000) := Lib.hid (Nat.le_trans (difL_le _ _ _ _ _) (by simp; omega))
      have HI2 : Hid (∀ W, Below wr.heap.size wr W → W.cell? ⟨b2, o2 + k, none⟩ = some (.int .i64 d)) := Lib.hid (fun W h => bel_cell h hd0)
      obtain ⟨g1, hg1⟩ : ∃ g, g = (onF a car num d).getD fliZ := ⟨_, rfl⟩
      obtain ⟨s1, hs1⟩ : ∃ s, s = (onF a car num d).isSome := ⟨_, rfl⟩
      obtain ⟨g2, hg2⟩ : ∃ g, g = (onF b car num d).getD fliZ := ⟨_, rfl⟩
      obtain ⟨s2, hs2⟩ : ∃ s, s = (onF b car num d).isSome := ⟨_, rfl⟩
      have CA := Lib.hid (fun W (h : Below w2.heap.size w2 W) => KOA.out d W (HAA.out.more h) HDB.out)
      have CB := Lib.hid (fun W (h : Below w2.heap.size w2 W) => KOB.out d W (HBB.out.more h) HDB.out)
      have N1 := Lib.hid (NA.out d)
      have N2 := Lib.hid (NB.out d)
      have HDF : Hid (difB a b car num d = ((!(s1 == s2)) || !(sameL g1.lg g2.lg))) := Lib.hid (by rw [hg1, hg2, hs1, hs2]; rfl)
      rw [← hg1] at CA N1
      rw [← hs1] at CA
      rw [← hg2] at CB N2
      rw [← hs2] at CB
      clear hd hdb hIk hc2 hg1 hs1 hg2 hs2
      have HO := Lib.hid hO
      have HBK := Lib.hid hbk
      clear hO hbk HK
      go_upto_region 6 with (go_at_call 26; refine (CA.out _ HBK.out).mono ?_; rintro e w3 ⟨X1, A3, c3, rfl, hX1, hL1, hb3⟩; have hst1 := store_fli hX1 w3; have hsz1 : X1.size = 6 := by rw [hX1.out]; rfl)
      clear hst1 hsz1
      have hb4 := bel_alloc w3 (.cells X1 fliT)
      have hn5 := ((cells_new w3 X1 fliT 5).trans (show X1[5]? = some (Value.slice A3 g1.lg.length c3) by rw [hX1.out]; rfl))
      generalize hw4 : w3.alloc (.cells X1 fliT) = w4 at *
      clear hw4
      have hr4 := hb3.trans (hb4.mono hb3.size)
      have H4 := Lib.hid (HBK.out.trans (hr4.mono HBK.out.size))
      have hd0 := HI2.out _ hr4
      have HL1 := Lib.hid (hL1.more hb4)
      have HR4 := Lib.hid hr4
      have h3r : w2.heap.size ≤ w3.heap.size := Nat.le_trans HBK.out.size hb3.size
      clear hL1 hb3 hb4 hr4
      go_upto_region 7 with (go_at_call 26; refine (CB.out _ H4.out).mono ?_; rintro e w6 ⟨X2, A6, c6, rfl, hX2, hL2, hb6⟩; have hst2 := store_fli hX2 w6; have hsz2 : X2.size = 6 := by rw [hX2.out]; rfl)
      clear hst2 hsz2
      have hb7 := bel_alloc w6 (.cells X2 fliT)
      have hm5 := ((cells_new w6 X2 fliT 5).trans (show X2[5]? = some (Value.slice A6 g2.lg.length c6) by rw [hX2.out]; rfl))
      have hb67 := hb6.trans (hb7.mono hb6.size)
      have hn5 := bel_cell hb67 hn5
      generalize hw7 : w6.alloc (.cells X2 fliT) = w7 at *
      clear hw7
      have HR7 := Lib.hid (HR4.out.trans (hb67.mono HR4.out.size))
      have H7 := Lib.hid (H4.out.trans (hb67.mono H4.out.size))
      have hd0 := HI2.out _ HR7.out
      have KE := Lib.hid (equalL_any _ _ g1.lg g2.lg w7 (HL1.out.more hb67) (hL2.more hb7) N1.out N2.out)
      clear hL2 hb6 hb7 hb67
      cases hdf : difB a b car num d with
      | false =>
        have HD2 : Hid (difL a b car num (D.take (k + 1)) = difL a b car num (D.take k)) := Lib.hid (by rw [HD.out, if_neg (by rw [hdf]; simp)])
        have h3 := HDF.out
        rw [hdf] at h3
        have h4 : (s1 == s2) = true ∧ sameL g1.lg g2.lg = true := by cases h5 : (s1 == s2) <;> cases h6 : sameL g1.lg g2.lg <;> rw [h5, h6] at h3 <;> simp at h3 ⊢
        obtain ⟨h5, h6⟩ := h4
        rw [h6] at KE
        clear hdf h3 h6
        go_wp2_with (go_at_call 99; refine KE.out.mono ?_; rintro e w8 ⟨rfl, hb8⟩)
        go_roundw
        case rel => exact ⟨k + 1, by omega, by go_num, Lib.hid ⟨by rw [HD2.out]; exact HO.out.more (HR7.out.trans (hb8.mono HR7.out.size)), H7.out.trans (hb8.mono H7.out.size)⟩⟩
        case measure => simp [intOf]; omega
      | true =>
        have HD2 : Hid (difL a b car num (D.take (k + 1)) = difL a b car num (D.take k) ++ [d]) := Lib.hid (by rw [HD.out, if_pos hdf])
        have h3 := HDF.out
        rw [hdf] at h3
        clear hdf
        cases h5 : (s1 == s2) with
        | false =>
          clear h3 KE
          go_wp2_with (at_builtin; refine wpList_rapp rtI1 rfl _ _ rfl HO.out rfl (HR7.out.trans ((bel_alloc _ _).mono HR7.out.size)) _ d _ rfl (cs := #[.int .i64 d]) rfl (heap_alloc_new _ _) HLN.out ?_; intro v8 w8 hO8 hC8)
          go_roundw
          case rel => exact ⟨k + 1, by omega, by go_num, Lib.hid ⟨by rw [HD2.out]; exact hO8, HBK.out.trans (hC8.below HO.out)⟩⟩
          case measure => simp [intOf]; omega
        | true =>
          have h6 : sameL g1.lg g2.lg = false := by cases h6 : sameL g1.lg g2.lg <;> rw [h5, h6] at h3 <;> simp at h3 ⊢
          rw [h6] at KE
          clear h3 h6
          go_wp2_with (first
            | (at_builtin; refine wpList_rapp rtI1 rfl _ _ rfl HO.out rfl (HR8.out.trans ((bel_alloc _ _).mono HR8.out.size)) _ d _ rfl (cs := #[.int .i64 d]) rfl (heap_alloc_new _ _) HLN.out ?_; intro v8 w9 hO8 hC8)
            | (go_at_call 99; refine KE.out.mono ?_; rintro e w8 ⟨rfl, hb8⟩; have HR8 := Lib.hid (HR7.out.trans (hb8.mono HR7.out.size)); have hd0 := HI2.out _ HR8.out))
          go_roundw
          case rel => exact ⟨k + 1, by omega, by go_num, Lib.hid ⟨by rw [HD2.out]; exact hO8, HBK.out.trans (hC8.below HO.out)⟩⟩
          case measure => simp [intOf]; omega
    · have hk' : k = D.length := by omega
      have i2 : ¬ (k : Int) < (D.length : Int) := by omega
      obtain ⟨hO, hbk⟩ := HK.out
      rw [hk', List.take_length] at hO
      clear hk'
      go_wp2
      go_ret
      exact ⟨_, rfl, hO.rowL rtI1.len, HB2.out.trans (hbk.mono HB2.out.size)⟩

end Go.Proofs.YtldillnjnjkkgaaGreatDoor
