/- Check. -/
import Derived.Test.YtggbflogndpnoaaMarB
namespace Go.Proofs.Ytggbflogndpnoaa
open Go.RowKit Go.Shelf Go.Maps
set_option linter.unusedSimpArgs false
set_option linter.unusedVariables false
attribute [local go_sem] Oper.semAt_some
attribute [local simp] wide_fn

abbrev erT : TypeId := 25
abbrev ibT : TypeId := 40
theorem Ch.inv {l : List Int} {pre : List (Nat × Nat)} {x : Nat × Nat} {b : Nat} (h : Ch l (pre ++ [x]) b) : Ch l pre x.1 ∧ IsEnd l x.1 x.2 := by
  generalize hq : pre ++ [x] = q at h
  cases h with
  | nil => simp at hq
  | @snoc p f t h1 h2 =>
    obtain ⟨rfl, e⟩ := List.append_inj' hq rfl
    simp at e
    subst e
    exact ⟨h1, h2⟩
/-- the map that holds what has been seen -/
def gS (xs : List Int) (c : Int) : Option Value := if c ∈ xs then some (.bool true) else none
theorem gS_put (xs : List Int) (x : Int) : (fun c => if c = x then some (Value.bool true) else gS xs c) = gS (xs ++ [x]) := by
  funext c
  unfold gS
  by_cases h : c = x
  · rw [if_pos h, if_pos (by simp [h])]
  · rw [if_neg h]
    by_cases hm : c ∈ xs
    · rw [if_pos hm, if_pos (by simp [hm])]
    · rw [if_neg hm, if_neg (by simp [hm, h])]
theorem gS_get (xs : List Int) (x : Int) : (gS xs x).getD (.bool false) = .bool (decide (x ∈ xs)) := by
  unfold gS
  by_cases h : x ∈ xs <;> simp [h]
theorem mk_map {P : Program} {t k e : TypeId} (hu : P.underlying t = some (.map k e)) (w : World) : (Instr.makeMap t none).run P w = .ok (.map (some w.heap.size)) (w.alloc (.map #[] 0)) := by
  simp [Instr.makeMap, run_underlying hu, asInt, asIntOf, Result.andThen]
theorem neg_yes {l : List Int} {k : Nat} (h : k < l.length) (hx : atP l k < 0) : negB l = true := by
  unfold negB
  rw [List.any_eq_true]
  exact ⟨_, List.mem_of_getElem? (atP_get h), decide_eq_true hx⟩
theorem neg_none {l : List Int} (h : ∀ j, j < l.length → 0 ≤ atP l j) : negB l = false := by
  unfold negB
  rw [List.any_eq_false]
  intro x hx
  obtain ⟨k, hk, e⟩ := List.getElem_of_mem hx
  have := h k hk
  have e2 := atP_some (l := l) (i := k) (x := x) (by rw [List.getElem?_eq_getElem hk, e])
  simp; omega

theorem rowL_of {n₀ : Nat} {W : World} {A : Option Addr} {c : Nat} {s : List Int} (h : InB n₀ W A s) : IntR W (.slice A s.length c) s := by
  refine ⟨A, c, rfl, ?_⟩
  rcases h with h | ⟨b, o, rfl, _, h1, h2⟩
  · exact .inl h
  · refine .inr ⟨b, o, rfl, h1, fun i x j u hx hu => ?_⟩
    cases j with
    | zero =>
      simp [encI] at hu
      subst hu
      have := h2 i x hx
      rw [Nat.mul_one, Nat.add_zero]
      exact this
    | succ j => simp [encI] at hu
/-- what the rounds keep -/
structure CI (l : List Int) (w : World) (A : Option Addr) (n c : Nat) (pre : List (Rn l)) (W : World) : Prop where
  err : Boxed W (w.heap.size + 1) erT (.int .i64 0)
  map : MapI W (w.heap.size + 2) pre.length (gS (nmsP l (rvs pre)))
  box : Boxed W (w.heap.size + 2 + 1) ibT (.map (some (w.heap.size + 2)))
  row : Boxed W w.heap.size insT (.slice A n c)
  bel : Below w.heap.size w W
  fine : Fine l (rvs pre)
  sz : w.heap.size + 5 ≤ W.heap.size
theorem ci_own (l : List Int) (w : World) (A : Option Addr) (n c B : Nat) (hB : w.heap.size + 5 ≤ B) : OwnFrom B (CI l w A n c) := by
  intro s X Y row hs hg hr
  have hb : ∀ k, k < B → k < X.heap.size → Y.heap[k]? = X.heap[k]? := fun k h h2 => hg.block k h2 (fun e => by obtain ⟨h3, _⟩ := hr k e.symm; omega)
  exact ⟨(hb _ (by omega) hs.err.lt).trans hs.err, hs.map.same (hb _ (by omega) hs.map.lt), (hb _ (by omega) hs.box.lt).trans hs.box, (hb _ (by omega) hs.row.lt).trans hs.row, ownFrom_below (β := Unit) (Nat.le_refl _) (by omega) () X Y row hs.bel hg hr, hs.fine, Nat.le_trans hs.sz hg.size⟩
/-- how they may stop -/
structure CX (l : List Int) (w : World) (c : Code) (xs : List (Rn l)) (W : World) : Prop where
  ret : c = .ret
  err : Boxed W (w.heap.size + 1) erT (.int .i64 18)
  bel : Below w.heap.size w W
  why : ∃ (p : List (Rn l)) (x : Rn l), xs = p ++ [x] ∧ 0 < atP l x.1.1 ∧ (x.1.2 = x.1.1 + 1 ∨ atP l x.1.1 ∈ nmsP l (rvs p))
theorem cx_own (l : List Int) (w : World) (cd : Code) (B : Nat) (hB : w.heap.size + 5 ≤ B) : OwnFrom B (CX l w cd) := by
  intro s X Y row hs hg hr
  have hb : ∀ k, k < B → k < X.heap.size → Y.heap[k]? = X.heap[k]? := fun k h h2 => hg.block k h2 (fun e => by obtain ⟨h3, _⟩ := hr k e.symm; omega)
  exact ⟨hs.ret, (hb _ (by omega) hs.err.lt).trans hs.err, ownFrom_below (β := Unit) (Nat.le_refl _) (by omega) () X Y row hs.bel hg hr, hs.why⟩
theorem CX.bad {l : List Int} {w : World} {c : Code} {xs : List (Rn l)} {W : World} (h : CX l w c xs W) {b : Nat} (hc : Ch l (rvs xs) b) : badP l = true := by
  obtain ⟨p, x, rfl, h0, h1⟩ := h.why
  rw [rvs_snoc] at hc
  obtain ⟨c1, c2⟩ := hc.inv
  rcases h1 with h1 | h1
  · exact bad_one c1 (h1 ▸ c2) h0
  · exact bad_two c1 (by have := c2.lt; have := c2.le; omega) h0 h1
/-- a number that is 0 -/
theorem CI.zero {l : List Int} {w : World} {A : Option Addr} {n c : Nat} {pre : List (Rn l)} {W : World} (h : CI l w A n c pre W) (x : Rn l) (h0 : ¬ 0 < atP l x.1.1) : CI l w A n c (pre ++ [x]) W := by
  refine ⟨h.err, ?_, h.box, h.row, h.bel, ?_, h.sz⟩
  · rw [rvs_snoc, nms_snoc, if_neg h0]
    exact h.map.mono (by simp)
  · rw [rvs_snoc]; exact h.fine.zero h0
theorem CI.put {l : List Int} {w : World} {A : Option Addr} {n c : Nat} {pre : List (Rn l)} {W W' : World} (h : CI l w A n c pre W) (x : Rn l) (h0 : 0 < atP l x.1.1) (h1 : x.1.2 ≠ x.1.1 + 1) (h2 : atP l x.1.1 ∉ nmsP l (rvs pre))
    (hm : MapI W' (w.heap.size + 2) (pre.length + 1) (fun c' => if c' = atP l x.1.1 then some (.bool true) else gS (nmsP l (rvs pre)) c')) (hg : W.grownBy W' (some (w.heap.size + 2))) : CI l w A n c (pre ++ [x]) W' := by
  have hb : ∀ k, k ≠ w.heap.size + 2 → k < W.heap.size → W'.heap[k]? = W.heap[k]? := fun k h h2 => hg.block k h2 (fun e => by cases e; exact h rfl)
  refine ⟨(hb _ (by omega) h.err.lt).trans h.err, ?_, (hb _ (by omega) h.box.lt).trans h.box, (hb _ (by omega) h.row.lt).trans h.row, h.bel.grown hg h.bel.size (fun k e => by cases e; omega), ?_, Nat.le_trans h.sz hg.size⟩
  · rw [rvs_snoc, nms_snoc, if_pos h0, List.length_append, List.length_singleton]
    rw [gS_put] at hm
    exact hm
  · rw [rvs_snoc]
    exact h.fine.put h0 (by have h4 : x.1.1 < x.1.2 := x.2.lt; show x.1.1 + 2 ≤ x.1.2; omega) h2

set_option maxRecDepth 100000 in
set_option maxHeartbeats 4000000 in
theorem check_in (A : Option Addr) (c : Nat) (l : List Int) (w : World) (hl : l.length ≤ 1000) (hi : ∀ x ∈ l, -9223372036854775808 ≤ x ∧ x ≤ 9223372036854775807) (hL : IntR w (.slice A l.length c) l) :
    CallsIn Fence.wide 10 Try.prog 10 #[.slice A l.length c] w fun e W' => e = .returned (.int .i64 (chkP l)) ∧ Below w.heap.size w W' := by
  have HL := Lib.hid hL
  have HI := Lib.hid hi
  obtain ⟨n, hn⟩ : ∃ n, n = l.length := ⟨_, rfl⟩
  have HN := Lib.hid hn
  obtain ⟨W1, hW1⟩ : ∃ W1, W1 = (w.alloc (.cells #[.slice A n c] insT)).alloc (.cells #[.int .i64 0] erT) := ⟨_, rfl⟩
  have hs1 : W1.heap.size = w.heap.size + 2 := by rw [hW1]; simp
  have bL : Boxed W1 w.heap.size insT (.slice A n c) := by rw [hW1]; exact (Boxed.new w insT _).alloc _
  have bE : Boxed W1 (w.heap.size + 1) erT (.int .i64 0) := by
    rw [hW1]
    have h := Boxed.new (w.alloc (.cells #[.slice A n c] insT)) erT (.int .i64 0)
    rw [World.size_alloc] at h
    exact h
  have HB1 : Hid (Below w.heap.size w W1) := Lib.hid (by rw [hW1]; exact ((Below.refl _ w).alloc (Nat.le_refl _) _).alloc (by simp) _)
  rw [← hn] at hl
  rw [← hn]
  clear hL hi hn
  refine callsIn_of_wp_marks Try.func10 rfl trivial ?_ rfl
  simp only [Try.ntmps10, List.size_toArray, List.length_cons, List.length_nil, Nat.reduceAdd, Nat.reduceSub, Array.replicate_succ, Array.replicate_zero, List.push_toArray, List.append_toArray, List.nil_append, List.cons_append]
  gi_wp2
  gi_loopw [11] (fun v wr => ∃ (k : Nat), k ≤ n ∧ v = .int .i64 (k : Int) ∧ Hid (∀ j, j < k → 0 ≤ atP l j) ∧ W1 = wr) (fun v _ => n - (intOf v).toNat)
  case atStart => exact ⟨0, Nat.zero_le _, rfl, Lib.hid (fun j h => by omega), hW1⟩
  case round =>
    clear hW1
    obtain ⟨k, hk, rfl, HK, rfl⟩ := hrel
    have c0 := bL.cell
    have c1 := bE.cell
    have f1 := bE.frozen
    by_cases hlt : k < n
    · obtain ⟨b, o, rfl, hc⟩ := int_at (HL.out.more HB1.out) (k := k) (atP_get (by have := HN.out; omega))
      obtain ⟨x, hx⟩ : ∃ x, x = atP l k := ⟨_, rfl⟩
      rw [← hx] at hc
      have i1 : (k : Int) < (n : Int) := by omega
      by_cases hneg : x < 0
      · have HR : Hid (chkP l = 2) := Lib.hid (by unfold chkP; rw [if_pos (neg_yes (k := k) (by have := HN.out; omega) (by rw [← hx]; exact hneg))])
        have bE2 := bE.set (.int .i64 2)
        have HB2 : Hid (Below w.heap.size w (W1.setCell ⟨w.heap.size + 1, 0, none⟩ (.int .i64 2))) := Lib.hid (HB1.out.setCell (p := ⟨w.heap.size + 1, 0, none⟩) (by simp) _)
        have c2 := bE2.cell
        clear hx bL bE bE2
        gi_wp2
        refine ⟨.int .i64 2, ?_, by rw [HR.out], HB2.out⟩
        simp [results, Try.f10, go_sem, c2]
      · have HK2 : Hid (∀ j, j < k + 1 → 0 ≤ atP l j) := Lib.hid (fun j h => by
          by_cases e : j = k
          · rw [e, ← hx]; omega
          · exact HK.out j (by omega))
        clear hx
        gi_wp2
        go_roundw
        case rel => exact ⟨k + 1, by omega, by go_num, HK2, trivial⟩
        case measure => simp [intOf]; omega
    · have HNG : Hid (negB l = false) := Lib.hid (neg_none (fun j h => HK.out j (by have := HN.out; omega)))
      have i1 : ¬ (k : Int) < (n : Int) := by omega
      have hmk := mk_map Try.underlying40 W1
      clear HK hk hlt c1 f1
      gi_wp2_with (gi_at_call 21; refine (runs_any _ _ _ _).mono ?_; rintro e w' ⟨rfl, rfl⟩)
      obtain ⟨W0, hW0⟩ : ∃ W0, W0 = ((W1.alloc (Obj.map #[] 0)).alloc (Obj.cells #[Value.map (some (w.heap.size + 2))] ibT)).alloc (Obj.cells #[Value.slice A n c] insT) := ⟨_, rfl⟩
      rw [show ((W1.alloc (Obj.map #[] 0)).alloc (Obj.cells #[Value.map (some (w.heap.size + 2))] ibT)).alloc (Obj.cells #[Value.slice A n c] insT) = W0 from hW0.symm]
      have hs0 : W0.heap.size = w.heap.size + 5 := by rw [hW0]; simp [hs1]
      have hB0 : Below W1.heap.size W1 W0 := by
        rw [hW0]
        exact (((Below.refl _ W1).alloc (Nat.le_refl _) _).alloc (by simp) _).alloc (by simp; omega) _
      have hCI : CI l w A n c [] W0 := by
        refine ⟨boxed_more bE hB0, ?_, ?_, boxed_more bL hB0, HB1.out.trans (hB0.mono HB1.out.size), Fine.nil l, by omega⟩
        · rw [hW0]
          have e : gS (nmsP l (rvs ([] : List (Rn l)))) = fun _ => none := by funext z; unfold gS nmsP rvs; simp
          rw [e, ← hs1]
          exact ((MapK.made W1 Try.prog 3 enI).more (bel_alloc _ _)).more (bel_alloc _ _)
        · rw [hW0]
          have h := (Boxed.new (W1.alloc (Obj.map #[] 0)) ibT (Value.map (some (w.heap.size + 2)))).alloc (Obj.cells #[Value.slice A n c] insT)
          rw [World.size_alloc, hs1] at h
          exact h
      have b5 : Boxed W0 (w.heap.size + 2 + 1 + 1) insT (.slice A n c) := by
        rw [hW0]
        have h := Boxed.new ((W1.alloc (Obj.map #[] 0)).alloc (Obj.cells #[Value.map (some (w.heap.size + 2))] ibT)) insT (.slice A n c)
        simp only [World.size_alloc, hs1] at h
        exact h
      have hIB : InB w.heap.size W0 A l := (inB_of HL.out).more hCI.bel
      clear hW0 hmk c0 bL bE hB0
      refine wpIn_rangeFunc_ownG rfl (by omega) (gf := 29) (lb := #[.pointer (some ⟨w.heap.size + 2 + 1 + 1, 0, none⟩)]) rfl trivial (enters_of Try.func29 (by kernel_rfl) rfl)
        (runs_stops (w.heap.size + 2 + 1 + 1) w.heap.size A c l (by have := HN.out; omega) W0 (by omega) (by rw [← HN.out]; exact b5) hIB) kp_t (kp_b (by omega) (by omega)) (Below.refl _ _) (fun _ => rfl)
        (CI l w A n c) (CX l w) (ci_own l w A n c _ (by omega)) (fun cd => cx_own l w cd _ (by omega)) hCI
        (fun x => { tmps := #[.slice A n c, .pointer (some ⟨w.heap.size, 0, none⟩), .pointer (some ⟨w.heap.size + 1, 0, none⟩), undef, u4, .pointer (some ⟨w.heap.size + 2 + 1, 0, none⟩), .int .i64 (x.1.1 : Int), .int .i64 (x.1.2 : Int), undef, .slice A n c, .int .i64 (n : Int), .int .i64 (k : Int), .bool false, u13, u14, u15, u16, u17, .map (some (w.heap.size + 2)), .slice A n c, .func (.func 29) #[] #[.pointer (some ⟨w.heap.size + 2 + 1 + 1, 0, none⟩)], .int .i64 (x.1.1 : Int), .int .i64 (x.1.2 : Int), undef, undef, undef, undef, undef, undef, undef, undef, undef, undef, undef, undef, undef, undef, undef, undef, undef], defers := [] }) ?assign ?body ?done ?stop
      case assign =>
        intro lp x W K hK
        dsimp only [encR]
        rw [zip_two]
        gi_wp2
        exact hK
      case body =>
        rintro lp pre ⟨⟨f, t⟩, he⟩ W hI hlt
        dsimp only
        have het : f < t := he.lt
        have hel : t ≤ l.length := he.le
        have htn : t ≤ 1000 := by have := HN.out; omega
        obtain ⟨b, o, rfl, hc⟩ := int_at (HL.out.more hI.bel) (k := f) (atP_get (by omega))
        obtain ⟨x, hx⟩ : ∃ x, x = atP l f := ⟨_, rfl⟩
        have HX := Lib.hid hx
        rw [← hx] at hc
        have hxb := HI.out x (by rw [hx]; exact List.mem_of_getElem? (atP_get (by omega)))
        have hx0 : 0 ≤ x := by rw [hx]; exact neg_no HNG.out f
        have r0 := hI.row.cell
        have i1 : (f : Int) < (n : Int) := by have := HN.out; omega
        have i2 : (0 : Int) ≤ (f : Int) := by omega
        clear hx
        by_cases hz : x = 0
        · have HZ := Lib.hid (hI.zero ⟨(f, t), he⟩ (by show ¬ 0 < atP l f; rw [← HX.out, hz]; decide))
          subst hz
          clear hI hx0 hxb
          gi_wp2
          exact ⟨KeepsFrom.refl _ _, ⟨Below.refl _ _, rfl⟩, HZ.out⟩
        · have e0 : (x == 0) = false := beq_eq_false_iff_ne.2 hz
          have hp : 0 < x := by omega
          have c5 := hI.box.cell
          have e1 := hI.err.cell
          have fe := hI.err.frozen
          have w1 : IntKind.i64.wrap ((t : Int) - (f : Int)) = (t : Int) - (f : Int) := IntWalk.i64_in _ (by omega)
          have hlk := (hI.map.look intK Try.underlying40 (zeroBo _) (key_int x hxb) false).trans (by rw [gS_get])
          simp only [Bool.false_eq_true, if_false, enI] at hlk
          have HS : Hid ((t = f + 1 ∨ x ∈ nmsP l (rvs pre)) → CX l w .ret (pre ++ [⟨(f, t), he⟩]) (W.setCell ⟨w.heap.size + 1, 0, none⟩ (.int .i64 18)) ∧ KeepsFrom W0.heap.size W (W.setCell ⟨w.heap.size + 1, 0, none⟩ (.int .i64 18))) := Lib.hid (fun h => ⟨⟨rfl, hI.err.set _, hI.bel.setCell (p := ⟨w.heap.size + 1, 0, none⟩) (by simp) _, pre, _, rfl, by show 0 < atP l f; rw [← HX.out]; exact hp, by rw [HX.out] at h; exact h⟩, (KeepsOthers.setCell _ _ _).from _⟩)
          obtain ⟨W', hput, hm', hg'⟩ := hI.map.store (val := .bool true) intK enI_inj Try.underlying40 (by unfold maxLen; omega) (key_int x hxb)
          have HP : Hid (t ≠ f + 1 → x ∉ nmsP l (rvs pre) → KeepsFrom W0.heap.size W W' ∧ KpB w.heap.size (w.heap.size + 2 + 1 + 1) W W' ∧ CI l w (some ⟨b, o, none⟩) n c (pre ++ [⟨(f, t), he⟩]) W') := Lib.hid (fun h1 h2 => ⟨KeepsFrom.of_grownBy hg' (fun j e => by cases e; omega), ⟨(Below.refl _ _).grown hg' (by have := hI.bel.size; omega) (fun j e => by cases e; omega), hg'.block _ (by have := hI.sz; omega) (by simp)⟩, hI.put ⟨(f, t), he⟩ (by show 0 < atP l f; rw [← HX.out]; exact hp) h1 (by show atP l f ∉ _; rw [← HX.out]; exact h2) (by rw [HX.out] at hm'; exact hm') hg'⟩)
          unfold enI at hput
          have h0 : decide (x = 0) = false := decide_eq_false hz
          clear hIB
          by_cases h1 : t = f + 1
          · have HF := Lib.hid (HS.out (.inl h1))
            have e2 : (((t : Int) - (f : Int)) == 1) = true := by rw [beq_iff_eq]; omega
            clear h1 HP hput hlk hm' hg'
            gi_wp2
            exact ⟨HF.out.2, HF.out.1⟩
          · have e2 : (((t : Int) - (f : Int)) == 1) = false := by rw [beq_eq_false_iff_ne]; omega
            by_cases h2 : x ∈ nmsP l (rvs pre)
            · have HF := Lib.hid (HS.out (.inr h2))
              rw [decide_eq_true h2] at hlk
              clear h1 h2 HP hput hm' hg'
              gi_wp2
              exact ⟨HF.out.2, HF.out.1⟩
            · have HF := Lib.hid (HP.out h1 h2)
              rw [decide_eq_false h2] at hlk
              clear h1 h2 HS hm' hg'
              gi_wp2
              exact HF.out
      case done =>
        rintro D ys W hD hys hI hK
        have HR : Hid (chkP l = 0) := Lib.hid (chk_zero.2 ⟨HNG.out, bad_none hys hI.fine⟩)
        have e1 := hI.err.cell
        have fe := hI.err.frozen
        have bE2 := hI.err.set (.int .i64 0)
        have HB2 : Hid (Below w.heap.size w (W.setCell ⟨w.heap.size + 1, 0, none⟩ (.int .i64 0))) := Lib.hid (hI.bel.setCell (p := ⟨w.heap.size + 1, 0, none⟩) (by simp) _)
        have hK' := (KeepsOthers.setCell W ⟨w.heap.size + 1, 0, none⟩ (.int .i64 0)).same D _ hK rfl
        clear hI
        gi_wp2
        refine ⟨by simp, .inl ⟨_, _, rfl, run_takeDeferred hK', ?_⟩⟩
        have hcA := cell_kept bE2.cell (grownBy_putObj' _ D (.deferred none)) (fun r e => by cases e; exact ⟨_, hK', rfl⟩)
        refine ⟨.int .i64 0, ?_, by rw [HR.out], HB2.out.trans (belowK_b (w := w) (Nat.le_refl _) _ D _ _ (by omega) hK' rfl rfl)⟩
        simp [results, Try.f10, go_sem, hcA]
      case stop =>
        rintro D cd pre W hD ⟨b, hb⟩ hX hK
        have HR : Hid (chkP l = 18) := Lib.hid (by have h1 := HNG.out; have h2 := hX.bad hb; unfold chkP; rw [h1, h2]; rfl)
        obtain rfl := hX.ret
        have c1 := hX.err.cell
        gi_wp2
        refine ⟨by simp, .inl ⟨_, _, rfl, run_takeDeferred hK, ?_⟩⟩
        have hcA := cell_kept c1 (grownBy_putObj' _ D (.deferred none)) (fun r e => by cases e; exact ⟨_, hK, rfl⟩)
        refine ⟨.int .i64 18, ?_, by rw [HR.out], hX.bel.trans (belowK_b (w := w) (Nat.le_refl _) W D _ _ (by omega) hK rfl rfl)⟩
        simp [results, Try.f10, go_sem, hcA]
end Go.Proofs.Ytggbflogndpnoaa
