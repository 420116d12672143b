/- Split: what it leaves at each of its loops; its closure walked. -/
import Derived.Test.YtalnocdgmcchaaaDoorMoneyG
import Derived.Deep.RegionLaw
namespace Go.Proofs.YtalnocdgmcchaaaDoor
open Go.RowKit Go.Sort
set_option linter.unusedSimpArgs false
set_option linter.unusedVariables false

theorem quiet_ex {P : Program} {f : FuncId} {args : Array Value} {w : World} {n : Nat} {v : Value} (h : ∀ W, Calls P f args W fun e w' => e = .returned v ∧ ∃ m, w' = W.drewN m) :
    Calls P f args (w.drewN n) fun e w' => e = .returned v ∧ ∃ m, w' = w.drewN m := (h (w.drewN n)).mono fun _ _ ⟨he, m, hm⟩ => ⟨he, n + m, by rw [hm, World.drewN_drewN]⟩

/-- filled up to the place k -/
def fill (f : Nat → Int) (n k : Nat) : List Int := (List.range n).map (fun j => if j < k then f j else 0)
theorem fill_len (f : Nat → Int) (n k : Nat) : (fill f n k).length = n := by simp [fill]
theorem fill_zero (f : Nat → Int) (n : Nat) : fill f n 0 = List.replicate n 0 := by
  apply List.ext_getElem
  · simp [fill]
  · intro i h1 h2; simp [fill]
theorem fill_step (f : Nat → Int) (n k : Nat) (h : k < n) : (fill f n k).set k (f k) = fill f n (k + 1) := by
  apply List.ext_getElem
  · simp [fill]
  · intro i h1 h2
    rw [List.getElem_set]
    simp only [fill, List.getElem_map, List.getElem_range]
    by_cases e : k = i
    · subst e; simp
    · rw [if_neg e]
      by_cases e2 : i < k
      · rw [if_pos e2, if_pos (by omega)]
      · rw [if_neg e2, if_neg (by omega)]
theorem fill_all (f : Nat → Int) (n : Nat) : fill f n n = (List.range n).map f := by
  apply List.ext_getElem
  · simp [fill]
  · intro i h1 h2
    simp only [fill, List.length_map, List.length_range] at h1
    simp only [fill, List.getElem_map, List.getElem_range]
    rw [if_pos h1]

/-- the memory of a division that is under way -/
structure SpW (w : World) (pa pw pr ps pm : Nat) (a T rest : Int) (sh rm : List Int) (W : World) : Prop where
  ra : Row W pa [a]
  rt : Row W pw [T]
  rr : Row W pr [rest]
  rs : Row W ps sh
  rm : Row W pm rm
  bel : RowKit.Below w.heap.size w W
/-- the blocks lie apart -/
structure Apart (w : World) (pa pw pr ps pm : Nat) : Prop where
  h0 : w.heap.size ≤ pa
  h1 : pa < pw
  h2 : pw < pr
  h3 : pr < ps
  h4 : ps < pm
section
variable {w W : World} {pa pw pr ps pm : Nat} {a T rest : Int} {sh rm : List Int}
theorem SpW.drewN (S : SpW w pa pw pr ps pm a T rest sh rm W) (n : Nat) : SpW w pa pw pr ps pm a T rest sh rm (W.drewN n) :=
  ⟨S.ra.drewN n, S.rt.drewN n, S.rr.drewN n, S.rs.drewN n, S.rm.drewN n, below_drewN S.bel n⟩
theorem SpW.setRest (S : SpW w pa pw pr ps pm a T rest sh rm W) (A : Apart w pa pw pr ps pm) (x : Int) : SpW w pa pw pr ps pm a T x sh rm (W.setCell ⟨pr, 0, none⟩ (.int .i64 x)) := by
  obtain ⟨h0, h1, h2, h3, h4⟩ := A
  exact ⟨S.ra.other (by omega) _ _, S.rt.other (by omega) _ _, S.rr.set 0 (by simp) x, S.rs.other (by omega) _ _, S.rm.other (by omega) _ _, S.bel.setCell (by simp; omega) _⟩
theorem SpW.setShare (S : SpW w pa pw pr ps pm a T rest sh rm W) (A : Apart w pa pw pr ps pm) (k : Nat) (hk : k < sh.length) (x : Int) : SpW w pa pw pr ps pm a T rest (sh.set k x) rm (W.setCell ⟨ps, k, none⟩ (.int .i64 x)) := by
  obtain ⟨h0, h1, h2, h3, h4⟩ := A
  exact ⟨S.ra.other (by omega) _ _, S.rt.other (by omega) _ _, S.rr.other (by omega) _ _, S.rs.set k hk x, S.rm.other (by omega) _ _, S.bel.setCell (by simp; omega) _⟩
theorem SpW.setRem (S : SpW w pa pw pr ps pm a T rest sh rm W) (A : Apart w pa pw pr ps pm) (k : Nat) (hk : k < rm.length) (x : Int) : SpW w pa pw pr ps pm a T rest sh (rm.set k x) (W.setCell ⟨pm, k, none⟩ (.int .i64 x)) := by
  obtain ⟨h0, h1, h2, h3, h4⟩ := A
  exact ⟨S.ra.other (by omega) _ _, S.rt.other (by omega) _ _, S.rr.other (by omega) _ _, S.rs.other (by omega) _ _, S.rm.set k hk x, S.bel.setCell (by simp; omega) _⟩
theorem SpW.more {W' : World} (S : SpW w pa pw pr ps pm a T rest sh rm W) (hb : RowKit.Below W.heap.size W W') (hs : w.heap.size ≤ W.heap.size) : SpW w pa pw pr ps pm a T rest sh rm W' :=
  ⟨S.ra.more hb, S.rt.more hb, S.rr.more hb, S.rs.more hb, S.rm.more hb, S.bel.trans (hb.mono hs)⟩
end

set_option maxRecDepth 100000 in
set_option maxHeartbeats 2000000 in
theorem cut_any (x T : Nat) (a rest : Int) (pa pw pr : Nat) (W : World) (ha : W.cell? ⟨pa, 0, none⟩ = some (.int .i64 a)) (hT : W.cell? ⟨pw, 0, none⟩ = some (.int .i64 T)) (hr : W.cell? ⟨pr, 0, none⟩ = some (.int .i64 rest)) (hf : W.frozen? ⟨pr, 0, none⟩ = false)
    (a1 : -1099511627776 ≤ a) (a2 : a ≤ 1099511627776) (hT0 : 0 < T) (hT2 : T ≤ 1099511627776) (hx : x ≤ T) (r1 : -1099511627776 ≤ rest) (r2 : rest ≤ 1099511627776) :
    Calls Tryd.prog 35 #[.int .i64 x, .pointer (some ⟨pa, 0, none⟩), .pointer (some ⟨pw, 0, none⟩), .pointer (some ⟨pr, 0, none⟩)] W fun e W' =>
      e = .returned (.tuple #[.int .i64 ((a.natAbs * x / T : Nat) : Int), .int .i64 ((a.natAbs * x % T : Nat) : Int)]) ∧ ∃ n, W' = (W.drewN n).setCell ⟨pr, 0, none⟩ (.int .i64 (rest - ((a.natAbs * x / T : Nat) : Int))) := by
  have hq : a.natAbs * x / T ≤ 1099511627776 := by
    have h1 : a.natAbs * x ≤ a.natAbs * T := Nat.mul_le_mul_left _ hx
    have h2 : a.natAbs * x / T ≤ a.natAbs * T / T := Nat.div_le_div_right h1
    rw [Nat.mul_div_cancel _ hT0] at h2
    omega
  have CS := Lib.hid (fun w => scale_any a.natAbs x T w (by omega) (by omega) hT0 (by omega))
  have CZ := Lib.hid (fun w => size_any a w (by omega) (by omega))
  unfold scaleR at CS
  rw [if_pos hq] at CS
  obtain ⟨q, hq'⟩ : ∃ q, q = a.natAbs * x / T := ⟨_, rfl⟩
  obtain ⟨r, hr'⟩ : ∃ r, r = a.natAbs * x % T := ⟨_, rfl⟩
  rw [← hq', ← hr'] at CS
  rw [← hq'] at hq
  rw [← hq', ← hr']
  obtain ⟨Z, hZ⟩ : ∃ Z : Int, Z = (a.natAbs : Int) := ⟨_, rfl⟩
  rw [← hZ] at CS CZ
  have hw : IntKind.i64.wrap (rest - (q : Int)) = rest - (q : Int) := by rw [IntKind.wrap_i64]; omega
  clear hq' hr' hZ
  go_enter Tryd.func35, Tryd.ntmps35
  go_wp2_with fail
  go_quiet (first | (go_at_call 30; exact Calls.quiet_of_same ((CZ.out _).mono fun _ _ ⟨h1, h2⟩ => ⟨h1, h2.symm⟩)) | (go_at_call 29; exact quiet_ex CS.out))
  go_wp2
  go_ret2
  exact ⟨rfl, _, rfl⟩
end Go.Proofs.YtalnocdgmcchaaaDoor
