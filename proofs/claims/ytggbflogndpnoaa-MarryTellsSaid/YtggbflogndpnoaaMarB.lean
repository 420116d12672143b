/- The iterator over the runs: its contract. -/
import Derived.Test.YtggbflogndpnoaaMarA
namespace Go.Proofs.Ytggbflogndpnoaa
open Go.RowKit Go.Shelf
set_option linter.unusedSimpArgs false
set_option linter.unusedVariables false
attribute [local go_sem] Oper.semAt_some
attribute [local simp] wide_fn

/-- a run, with where it ends -/
abbrev Rn (l : List Int) := { x : Nat × Nat // IsEnd l x.1 x.2 }
abbrev encR {l : List Int} (x : Rn l) : Array Value := #[.int .i64 (x.1.1 : Int), .int .i64 (x.1.2 : Int)]
def rvs {l : List Int} (xs : List (Rn l)) : List (Nat × Nat) := xs.map (·.1)
theorem rvs_snoc {l : List Int} (xs : List (Rn l)) (x : Rn l) : rvs (xs ++ [x]) = rvs xs ++ [x.1] := by simp [rvs]
theorem rvs_len {l : List Int} (xs : List (Rn l)) : (rvs xs).length = xs.length := by simp [rvs]
/-- a world of a round -/
structure InRd {l : List Int} (J : List (Rn l) → World → Prop) (pre : List (Rn l)) (n₀ Bn : Nat) (A : Option Addr) (n c : Nat) (W : World) : Prop where
  j : J pre W
  box : Boxed W Bn insT (.slice A n c)
  row : InB n₀ W A l
theorem InRd.drewN {l : List Int} {J : List (Rn l) → World → Prop} {B0 : Nat} (hJa : AbidesFrom B0 J) {pre : List (Rn l)} {n₀ Bn n c : Nat} {A : Option Addr} {W : World} (h : InRd J pre n₀ Bn A n c W) (m : Nat) : InRd J pre n₀ Bn A n c (W.drewN m) :=
  ⟨abide_below hJa h.j (below_drewN (Below.refl _ _) m), boxed_more h.box (below_drewN (Below.refl _ _) m), h.row.more (below_drewN (Below.refl _ _) m)⟩

set_option maxRecDepth 100000 in
set_option maxHeartbeats 4000000 in
theorem runs1_in (lp Bn n₀ : Nat) (A : Option Addr) (c : Nat) (l : List Int) (J Jx : List (Rn l) → World → Prop) (B0 : Nat) (hJa : AbidesFrom B0 J) (hs : l.length ≤ 1000)
    (hY : ∀ pre x W, J pre W → pre.length < 1001 → YieldAt Fence.wide 8 Try.prog lp (encR x) W fun e W' =>
      (e = .returned (.bool true) ∧ J (pre ++ [x]) W' ∧ KpB n₀ Bn W W') ∨ (e = .returned (.bool false) ∧ Jx (pre ++ [x]) W'))
    (W : World) (hBn : Boxed W Bn insT (.slice A l.length c)) (hr : InB n₀ W A l) (h0 : J [] W) :
    CallsIn Fence.wide 9 Try.prog 29 #[.func (.yield lp) #[] #[], .pointer (some ⟨Bn, 0, none⟩)] W fun e W' => (∃ v, e = .returned v) ∧
      ((∃ ys : List (Rn l), Ch l (rvs ys) l.length ∧ J ys W') ∨ (∃ pre : List (Rn l), (∃ b, Ch l (rvs pre) b) ∧ Jx pre W')) := by
  have HJA := Lib.hid hJa
  have HY := Lib.hid hY
  have H0 : Hid (InRd J [] n₀ Bn A l.length c W) := Lib.hid ⟨h0, hBn, hr⟩
  have g0 := hBn.cell
  clear hY hBn hr hJa h0
  obtain ⟨n, hn⟩ : ∃ n, n = l.length := ⟨_, rfl⟩
  have HN := Lib.hid hn
  rw [← hn] at H0 hs g0 ⊢
  clear hn
  refine callsIn_of_wp Try.func29 rfl trivial ?_ rfl
  simp only [Try.ntmps29, List.size_toArray, List.length_cons, List.length_nil, Nat.reduceAdd, Nat.reduceSub, Array.replicate_succ, Array.replicate_zero, List.push_toArray, List.append_toArray, List.nil_append, List.cons_append]
  gi_wp2
  gi_loopw [3, 4] (fun t f wr => ∃ (k : Nat) (pre : List (Rn l)), k ≤ n ∧ t = .int .i64 (k : Int) ∧ f = .int .i64 (k : Int) ∧ Hid (Ch l (rvs pre) k) ∧ Hid (InRd J pre n₀ Bn A n c wr)) (fun _ f _ => n - (intOf f).toNat)
  case atStart => exact ⟨0, [], Nat.zero_le _, rfl, rfl, Lib.hid .nil, H0⟩
  case round =>
    clear g0 H0
    obtain ⟨k, pre, hk, rfl, rfl, HP, HR⟩ := hrel
    have g0 := HR.out.box.cell
    by_cases hlt : k < n
    · have i1 : (k : Int) < (n : Int) := by omega
      have hne : ¬ l = [] := by intro e; have := HN.out; rw [e] at this; simp at this; omega
      obtain ⟨b, o, e1, hb0, hb1, hc⟩ := HR.out.row.resolve_left hne
      have HE1 := Lib.hid e1
      clear hb0 hb1 hc
      gi_wp2
      gi_loopw [3] (fun t wr => ∃ (q : Nat), k < q ∧ q ≤ n ∧ t = .int .i64 (q : Int) ∧ Hid (∀ j, k ≤ j → j < q → atP l j = atP l k) ∧ Hid (¬ 0 < atP l k → q = k + 1) ∧ Hid (InRd J pre n₀ Bn A n c wr)) (fun t _ => n - (intOf t).toNat)
      case atStart => exact ⟨k + 1, by omega, by omega, by go_num, Lib.hid (fun j a d => by rw [show j = k by omega]), Lib.hid (fun _ => rfl), HR⟩
      case round =>
        clear g0 HR
        obtain ⟨q, hkq, hqn, rfl, HQ, HO, HR⟩ := hrel
        have g0 := HR.out.box.cell
        obtain ⟨b', o', e2, hb0, hb1, hc⟩ := HR.out.row.resolve_left (by intro e; have := HN.out; rw [e] at this; simp at this; omega)
        obtain ⟨rfl, rfl⟩ : b = b' ∧ o = o' := by have := HE1.out.symm.trans e2; simpa using this
        have HD := Lib.hid (fun m => HR.out.drewN HJA.out m)
        have cf := hc k _ (atP_get (by have := HN.out; omega))
        obtain ⟨x, hx⟩ : ∃ x, x = atP l k := ⟨_, rfl⟩
        rw [← hx] at cf
        have HX := Lib.hid hx
        rw [e2] at g0
        have hpl : pre.length < 1001 := by
          have := HP.out.len
          rw [rvs_len] at this
          omega
        have hsp : (0 < x ∧ q < n ∧ atP l q = x) ∨ IsEnd l k q := by
          by_cases h1 : 0 < x
          · by_cases h2 : q < n
            · by_cases h3 : atP l q = x
              · exact .inl ⟨h1, h2, h3⟩
              · exact .inr ⟨hkq, by have := HN.out; omega, HQ.out, fun _ _ => by rw [← hx]; exact h3, fun h => absurd (by rw [← hx]; exact h1) h⟩
            · exact .inr ⟨hkq, by have := HN.out; omega, HQ.out, fun _ h => absurd (by have := HN.out; omega) h2, fun h => absurd (by rw [← hx]; exact h1) h⟩
          · refine .inr ⟨hkq, by have := HN.out; omega, HQ.out, fun h => absurd (by rw [hx]; exact h) h1, fun h => HO.out h⟩
        rcases hsp with ⟨h1, h2, h3⟩ | he
        · have cq := hc q x (by rw [← h3]; exact atP_get (by have := HN.out; omega))
          have HQ2 : Hid (∀ j, k ≤ j → j < q + 1 → atP l j = atP l k) := Lib.hid (fun j a d => by
            by_cases e : j = q
            · rw [e, h3, hx]
            · exact HQ.out j a (by omega))
          have HO2 : Hid (¬ 0 < atP l k → q + 1 = k + 1) := Lib.hid (fun h => absurd (by rw [← hx]; exact h1) h)
          have i2 : decide (0 < x) = true := decide_eq_true h1
          have i3 : (q : Int) < (n : Int) := by omega
          have i4 : (x == x) = true := by simp
          clear hc hb0 hb1 hx h1 h3 HQ
          gi_wp2
          gi_quiet (fail)
          gi_wp2
          go_roundw
          case rel => exact ⟨q + 1, by omega, by omega, by go_num, HQ2, Lib.hid (fun h => HO2.out (by omega)), Lib.hid (HD.out _)⟩
          case measure => simp [intOf]; omega
        · have HE := Lib.hid he
          have HPE : Hid (∀ he : IsEnd l k q, Ch l (rvs (pre ++ [(⟨(k, q), he⟩ : Rn l)])) q) := Lib.hid (fun he => by rw [rvs_snoc]; exact HP.out.snoc he)
          by_cases h1 : 0 < x
          · have i2 : decide (0 < x) = true := decide_eq_true h1
            by_cases h2 : q < n
            · have i3 : (q : Int) < (n : Int) := by omega
              have cq := hc q _ (atP_get (by have := HN.out; omega))
              have hyx : atP l q ≠ x := by rw [hx]; exact he.stop (by rw [← hx]; exact h1) (by have := HN.out; omega)
              generalize atP l q = y at *
              have i4 : (y == x) = false := beq_eq_false_iff_ne.2 hyx
              clear hc hb0 hb1 hx h1 hyx he
              gi_wp2
              gi_quiet (fail)
              obtain ⟨fn, tmps, assign, body, hy, hR⟩ := HY.out pre ⟨(k, q), HE.out⟩ _ (HD.out nq).j hpl
              dsimp only [encR] at hy
              gi_wp2
              refine hR.mono ?_
              rintro e W3 (⟨rfl, hJ3, hk3⟩ | ⟨rfl, hx3⟩)
              · have HR3 : Hid (InRd J (pre ++ [(⟨(k, q), HE.out⟩ : Rn l)]) n₀ Bn (some ⟨b, o, none⟩) n c W3) := Lib.hid ⟨hJ3, hk3.2.trans (by have := (HD.out nq).box; rw [HE1.out] at this; exact this), by have := (HD.out nq).row.more hk3.1; rw [HE1.out] at this; exact this⟩
                gi_wp2
                go_roundw
                case rel => exact ⟨q, _, by omega, rfl, rfl, Lib.hid (HPE.out _), by rw [HE1.out]; exact HR3⟩
                case measure => simp [intOf]; omega
              · gi_wp2
                refine bodyPost_ret (results_none rfl _ _ _) rfl ?_
                exact ⟨⟨_, rfl⟩, .inr ⟨_, ⟨_, HPE.out _⟩, hx3⟩⟩
            · have i3 : ¬ (q : Int) < (n : Int) := by omega
              clear hc hb0 hb1 hx h1 he
              gi_wp2
              gi_quiet (fail)
              obtain ⟨fn, tmps, assign, body, hy, hR⟩ := HY.out pre ⟨(k, q), HE.out⟩ _ (HD.out nq).j hpl
              dsimp only [encR] at hy
              gi_wp2
              refine hR.mono ?_
              rintro e W3 (⟨rfl, hJ3, hk3⟩ | ⟨rfl, hx3⟩)
              · have HR3 : Hid (InRd J (pre ++ [(⟨(k, q), HE.out⟩ : Rn l)]) n₀ Bn (some ⟨b, o, none⟩) n c W3) := Lib.hid ⟨hJ3, hk3.2.trans (by have := (HD.out nq).box; rw [HE1.out] at this; exact this), by have := (HD.out nq).row.more hk3.1; rw [HE1.out] at this; exact this⟩
                gi_wp2
                go_roundw
                case rel => exact ⟨q, _, by omega, rfl, rfl, Lib.hid (HPE.out _), by rw [HE1.out]; exact HR3⟩
                case measure => simp [intOf]; omega
              · gi_wp2
                refine bodyPost_ret (results_none rfl _ _ _) rfl ?_
                exact ⟨⟨_, rfl⟩, .inr ⟨_, ⟨_, HPE.out _⟩, hx3⟩⟩
          · have i2 : decide (0 < x) = false := decide_eq_false h1
            clear hc hb0 hb1 hx h1 he
            gi_wp2
            gi_quiet (fail)
            obtain ⟨fn, tmps, assign, body, hy, hR⟩ := HY.out pre ⟨(k, q), HE.out⟩ _ (HD.out nq).j hpl
            dsimp only [encR] at hy
            gi_wp2
            refine hR.mono ?_
            rintro e W3 (⟨rfl, hJ3, hk3⟩ | ⟨rfl, hx3⟩)
            · have HR3 : Hid (InRd J (pre ++ [(⟨(k, q), HE.out⟩ : Rn l)]) n₀ Bn (some ⟨b, o, none⟩) n c W3) := Lib.hid ⟨hJ3, hk3.2.trans (by have := (HD.out nq).box; rw [HE1.out] at this; exact this), by have := (HD.out nq).row.more hk3.1; rw [HE1.out] at this; exact this⟩
              gi_wp2
              go_roundw
              case rel => exact ⟨q, _, by omega, rfl, rfl, Lib.hid (HPE.out _), by rw [HE1.out]; exact HR3⟩
              case measure => simp [intOf]; omega
            · gi_wp2
              refine bodyPost_ret (results_none rfl _ _ _) rfl ?_
              exact ⟨⟨_, rfl⟩, .inr ⟨_, ⟨_, HPE.out _⟩, hx3⟩⟩
    · have e : k = n := by omega
      subst e
      have i1 : ¬ (k : Int) < (k : Int) := by omega
      gi_wp2
      go_end0
      exact ⟨⟨_, rfl⟩, .inl ⟨pre, HP.out, HR.out.j⟩⟩
/-- the contract of the iterator's value -/
theorem runs_stops (Bn n₀ : Nat) (A : Option Addr) (c : Nat) (l : List Int) (hs : l.length ≤ 1000) (w : World) (hn : n₀ ≤ w.heap.size) (hBn : Boxed w Bn insT (.slice A l.length c)) (hr : InB n₀ w A l) :
    SeqStopsK Fence.wide 9 Try.prog 29 #[.pointer (some ⟨Bn, 0, none⟩)] (encR (l := l)) (KpB n₀ Bn) (fun ys => Ch l (rvs ys) l.length) (fun pre => ∃ b, Ch l (rvs pre) b) 1001 w := fun lp J Jx W hW hJ _ hY h0 =>
  runs1_in lp Bn n₀ A c l J Jx W.heap.size hJ hs hY W (boxed_more hBn hW) (hr.more (hW.mono hn)) h0
set_option maxHeartbeats 1000000 in
theorem runs_any (A : Option Addr) (n c : Nat) (w : World) : CallsIn Fence.wide 9 Try.prog 21 #[.slice A n c] w fun e w' => e = .returned (.func (.func 29) #[] #[.pointer (some ⟨w.heap.size, 0, none⟩)]) ∧ w' = w.alloc (.cells #[.slice A n c] insT) := by
  refine callsIn_of_wp Try.func21 rfl trivial ?_ rfl
  simp only [Try.ntmps21, List.size_toArray, List.length_cons, List.length_nil, Nat.reduceAdd, Nat.reduceSub, Array.replicate_succ, Array.replicate_zero, List.push_toArray, List.append_toArray, List.nil_append, List.cons_append]
  gi_wp2
  go_ret
  exact ⟨rfl, rfl⟩
end Go.Proofs.Ytggbflogndpnoaa
