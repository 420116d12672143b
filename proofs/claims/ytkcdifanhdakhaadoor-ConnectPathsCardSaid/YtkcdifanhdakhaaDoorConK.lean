/- Walk of hasCodes; a map keyed by three texts. -/
import Derived.Test.YtkcdifanhdakhaaDoorConA
import Derived.Test.YtkcdifanhdakhaaDoorPlaL
import Derived.DeepKeys4
import Derived.WideKeyPair
namespace Go.Proofs.YtkcdifanhdakhaaDoor.Con
open Go.RowKit Go.Shelf Go.Maps
set_option linter.unusedSimpArgs false
set_option linter.unusedVariables false

def codC (c : Cn) : Bool := (emB c.a || capsB c.a 3) && (emB c.i || carB c.i) && (emB c.o || carB c.o)
def conW : ByteArray := ⟨#[99, 111, 110, 110, 101, 99, 116, 32]⟩
abbrev Key := ByteArray × ByteArray × ByteArray
def keyC (c : Cn) : Key := (c.a, c.i, c.o)
def twC (L : List Cn) (c : Cn) : Bool := L.any fun b => decide (keyC b = keyC c)
def badM (m : Int) : Bool := decide (m < 0) || decide (1440 < m)
def conE (L : List Cn) (c : Cn) : List Int := [if (!codC c) = true then 5 else 0, if badM c.m = true then 2 else 0, if twC L c = true then 6 else 0]
def conF (l : List Cn) (k : Nat) : List Flt := (List.range k).flatMap fun i => match l[i]? with
  | some c => pick (conW ++ decA i) (conE (l.take i) c)
  | none => []
theorem conF_zero (l : List Cn) : conF l 0 = [] := rfl
theorem conF_succ (l : List Cn) (k : Nat) (c : Cn) (h : l[k]? = some c) : conF l (k + 1) = conF l k ++ pick (conW ++ decA k) (conE (l.take k) c) := by
  unfold conF
  rw [List.range_succ, List.flatMap_append, List.flatMap_cons, List.flatMap_nil, List.append_nil, h]
theorem conF_le (l : List Cn) : ∀ k, (conF l k).length ≤ 3 * k
  | 0 => Nat.le_refl _
  | k + 1 => by
    have ih := conF_le l k
    by_cases h : k < l.length
    · rw [conF_succ l k _ (List.getElem?_eq_getElem h), List.length_append]
      have h1 := pick_le (conW ++ decA k) (conE (l.take k) l[k])
      have h2 : (conE (l.take k) l[k]).length = 3 := rfl
      omega
    · unfold conF at ih ⊢
      rw [List.range_succ, List.flatMap_append, List.flatMap_cons, List.flatMap_nil, List.append_nil, List.getElem?_eq_none (by omega), List.append_nil]
      omega
abbrev triT : TypeId := 77
theorem laidOutP : laidOutB Tryd.prog = true := by kernel_rfl
theorem rowTri : triT < Tryd.prog.types.size := by decide +kernel
theorem triK : Keyed Tryd.prog triT := Keyed.of_law (deep_law_laid laidOutP (m := 2) (by omega) rowTri (by kernel_rfl) (by kernel_rfl))
def enK (c : Key) : Value := .agg #[.string c.1, .string c.2.1, .string c.2.2]
theorem enK_inj (c c' : Key) (h : enK c = enK c') : c = c' := by
  obtain ⟨a, b, d⟩ := c
  obtain ⟨a', b', d'⟩ := c'
  simp [enK] at h
  obtain ⟨rfl, rfl, rfl⟩ := h
  rfl
theorem key_tri (c : Key) (h1 : c.1.size ≤ maxLen) (h2 : c.2.1.size ≤ maxLen) (h3 : c.2.2.size ≤ maxLen) : ∃ kl, keyOf Tryd.prog triT (enK c) = some kl := by
  have A : WideMaps.ArrKey Tryd.prog triT 9 3 := ⟨Tryd.underlying77, by kernel_rfl, by kernel_rfl, by kernel_rfl⟩
  have he := Tryd.underlying9
  obtain ⟨m, hm⟩ : ∃ m, Tryd.prog.types.size = m + 1 := ⟨Tryd.prog.types.size - 1, by decide +kernel⟩
  have hkt := A.keyType ⟨m, hm⟩
  refine ⟨.string (keyBytes [.string c.1.data.toList, .string c.2.1.data.toList, .string c.2.2.data.toList]), ?_⟩
  unfold keyOf enK
  simp only [A.hu]
  rw [if_pos (by simp [hkt, Value.formed, A.hu, A.size]), hm]
  unfold Program.keyLits
  simp only [A.hu, Value.cells]
  rw [if_pos (by rw [A.size]; rfl), show List.range 3 = [0, 1, 2] from rfl, List.mapM_cons, List.mapM_cons, List.mapM_cons, List.mapM_nil]
  simp [A.one, Program.keyLits, he, h1, h2, h3]
abbrev MapT (w : World) (b n : Nat) (g : Key → Option Value) : Prop := MapK Tryd.prog triT enK w b n g
theorem zeroBl (w : World) : (zeroValue 4).run Tryd.prog w = .ok (.bool false) w := by kernel_rfl
theorem lookT {w : World} {b n : Nat} {g : Key → Option Value} (h : MapT w b n g) (c : Key) {kl : Lit} (hc : keyOf Tryd.prog triT (enK c) = some kl) :
    (Instr.lookup 76 (.map (some b)) (enK c) false).run Tryd.prog w = .ok ((g c).getD (.bool false)) w := h.look triK Tryd.underlying76 (zeroBl w) hc false
def gN (L : List Cn) (q : Key) : Option Value := if L.any (fun b => decide (keyC b = q)) then some (.bool true) else none
theorem gN_put (L : List Cn) (c : Cn) : (fun q => if q = keyC c then some (Value.bool true) else gN L q) = gN (L ++ [c]) := by
  funext q
  unfold gN
  by_cases e : q = keyC c
  · subst e; simp
  · have e' : ¬ keyC c = q := fun h => e h.symm
    simp [e, e']
theorem gN_get (L : List Cn) (c : Cn) : (gN L (keyC c)).getD (.bool false) = .bool (twC L c) := by
  unfold gN twC
  cases L.any fun b => decide (keyC b = keyC c) <;> rfl
structure OkC (c : Cn) : Prop where
  a : c.a.size ≤ maxLen
  i : c.i.size ≤ maxLen
  o : c.o.size ≤ maxLen
set_option maxHeartbeats 8000000 in
theorem hasCodes_any (c : Cn) (w : World) (h : OkC c) : Calls Tryd.prog 31 #[aggCn c] w fun e w' => e = .returned (.bool (codC c)) ∧ Below w.heap.size w w' := by
  have KA := Lib.hid (fun W => airp_any c.a W h.a)
  have KI := Lib.hid (fun W => carrier_any c.i W h.i)
  have KO := Lib.hid (fun W => carrier_any c.o W h.o)
  have HC : Hid (codC c = ((c.a.toList.isEmpty || capsB c.a 3) && (c.i.toList.isEmpty || carB c.i) && (c.o.toList.isEmpty || carB c.o))) := Lib.hid rfl
  generalize capsB c.a 3 = x1 at *
  generalize carB c.i = x2 at *
  generalize carB c.o = x3 at *
  cases e1 : c.a.toList.isEmpty with
  | true =>
    cases e2 : c.i.toList.isEmpty with
    | true =>
      cases e3 : c.o.toList.isEmpty with
      | true =>
        go_enter Tryd.func31, Tryd.ntmps31
        go_wp2_with (first | (go_at_call 54; with_reducible refine (KA.out _).mono ?_; rintro e w' ⟨rfl, rfl⟩) | (go_at_call 55; with_reducible refine (KI.out _).mono ?_; rintro e w' ⟨rfl, rfl⟩) | (go_at_call 55; with_reducible refine (KO.out _).mono ?_; rintro e w' ⟨rfl, rfl⟩))
        go_ret
        exact ⟨ret_bool (by rw [HC.out, e1, e2, e3]; rfl), bel_alloc _ _⟩
      | false =>
        cases x3 with
        | true =>
          go_enter Tryd.func31, Tryd.ntmps31
          go_wp2_with (first | (go_at_call 54; with_reducible refine (KA.out _).mono ?_; rintro e w' ⟨rfl, rfl⟩) | (go_at_call 55; with_reducible refine (KI.out _).mono ?_; rintro e w' ⟨rfl, rfl⟩) | (go_at_call 55; with_reducible refine (KO.out _).mono ?_; rintro e w' ⟨rfl, rfl⟩))
          go_ret
          exact ⟨ret_bool (by rw [HC.out, e1, e2, e3]; rfl), bel_alloc _ _⟩
        | false =>
          go_enter Tryd.func31, Tryd.ntmps31
          go_wp2_with (first | (go_at_call 54; with_reducible refine (KA.out _).mono ?_; rintro e w' ⟨rfl, rfl⟩) | (go_at_call 55; with_reducible refine (KI.out _).mono ?_; rintro e w' ⟨rfl, rfl⟩) | (go_at_call 55; with_reducible refine (KO.out _).mono ?_; rintro e w' ⟨rfl, rfl⟩))
          go_ret
          exact ⟨ret_bool (by rw [HC.out, e1, e2, e3]; rfl), bel_alloc _ _⟩
    | false =>
      cases x2 with
      | true =>
        cases e3 : c.o.toList.isEmpty with
        | true =>
          go_enter Tryd.func31, Tryd.ntmps31
          go_wp2_with (first | (go_at_call 54; with_reducible refine (KA.out _).mono ?_; rintro e w' ⟨rfl, rfl⟩) | (go_at_call 55; with_reducible refine (KI.out _).mono ?_; rintro e w' ⟨rfl, rfl⟩) | (go_at_call 55; with_reducible refine (KO.out _).mono ?_; rintro e w' ⟨rfl, rfl⟩))
          go_ret
          exact ⟨ret_bool (by rw [HC.out, e1, e2, e3]; rfl), bel_alloc _ _⟩
        | false =>
          cases x3 with
          | true =>
            go_enter Tryd.func31, Tryd.ntmps31
            go_wp2_with (first | (go_at_call 54; with_reducible refine (KA.out _).mono ?_; rintro e w' ⟨rfl, rfl⟩) | (go_at_call 55; with_reducible refine (KI.out _).mono ?_; rintro e w' ⟨rfl, rfl⟩) | (go_at_call 55; with_reducible refine (KO.out _).mono ?_; rintro e w' ⟨rfl, rfl⟩))
            go_ret
            exact ⟨ret_bool (by rw [HC.out, e1, e2, e3]; rfl), bel_alloc _ _⟩
          | false =>
            go_enter Tryd.func31, Tryd.ntmps31
            go_wp2_with (first | (go_at_call 54; with_reducible refine (KA.out _).mono ?_; rintro e w' ⟨rfl, rfl⟩) | (go_at_call 55; with_reducible refine (KI.out _).mono ?_; rintro e w' ⟨rfl, rfl⟩) | (go_at_call 55; with_reducible refine (KO.out _).mono ?_; rintro e w' ⟨rfl, rfl⟩))
            go_ret
            exact ⟨ret_bool (by rw [HC.out, e1, e2, e3]; rfl), bel_alloc _ _⟩
      | false =>
        go_enter Tryd.func31, Tryd.ntmps31
        go_wp2_with (first | (go_at_call 54; with_reducible refine (KA.out _).mono ?_; rintro e w' ⟨rfl, rfl⟩) | (go_at_call 55; with_reducible refine (KI.out _).mono ?_; rintro e w' ⟨rfl, rfl⟩) | (go_at_call 55; with_reducible refine (KO.out _).mono ?_; rintro e w' ⟨rfl, rfl⟩))
        go_ret
        exact ⟨ret_bool (by rw [HC.out, e1, e2]; first | rfl | (cases c.o.toList.isEmpty <;> cases x3 <;> rfl)), bel_alloc _ _⟩
  | false =>
    cases x1 with
    | true =>
      cases e2 : c.i.toList.isEmpty with
      | true =>
        cases e3 : c.o.toList.isEmpty with
        | true =>
          go_enter Tryd.func31, Tryd.ntmps31
          go_wp2_with (first | (go_at_call 54; with_reducible refine (KA.out _).mono ?_; rintro e w' ⟨rfl, rfl⟩) | (go_at_call 55; with_reducible refine (KI.out _).mono ?_; rintro e w' ⟨rfl, rfl⟩) | (go_at_call 55; with_reducible refine (KO.out _).mono ?_; rintro e w' ⟨rfl, rfl⟩))
          go_ret
          exact ⟨ret_bool (by rw [HC.out, e1, e2, e3]; rfl), bel_alloc _ _⟩
        | false =>
          cases x3 with
          | true =>
            go_enter Tryd.func31, Tryd.ntmps31
            go_wp2_with (first | (go_at_call 54; with_reducible refine (KA.out _).mono ?_; rintro e w' ⟨rfl, rfl⟩) | (go_at_call 55; with_reducible refine (KI.out _).mono ?_; rintro e w' ⟨rfl, rfl⟩) | (go_at_call 55; with_reducible refine (KO.out _).mono ?_; rintro e w' ⟨rfl, rfl⟩))
            go_ret
            exact ⟨ret_bool (by rw [HC.out, e1, e2, e3]; rfl), bel_alloc _ _⟩
          | false =>
            go_enter Tryd.func31, Tryd.ntmps31
            go_wp2_with (first | (go_at_call 54; with_reducible refine (KA.out _).mono ?_; rintro e w' ⟨rfl, rfl⟩) | (go_at_call 55; with_reducible refine (KI.out _).mono ?_; rintro e w' ⟨rfl, rfl⟩) | (go_at_call 55; with_reducible refine (KO.out _).mono ?_; rintro e w' ⟨rfl, rfl⟩))
            go_ret
            exact ⟨ret_bool (by rw [HC.out, e1, e2, e3]; rfl), bel_alloc _ _⟩
      | false =>
        cases x2 with
        | true =>
          cases e3 : c.o.toList.isEmpty with
          | true =>
            go_enter Tryd.func31, Tryd.ntmps31
            go_wp2_with (first | (go_at_call 54; with_reducible refine (KA.out _).mono ?_; rintro e w' ⟨rfl, rfl⟩) | (go_at_call 55; with_reducible refine (KI.out _).mono ?_; rintro e w' ⟨rfl, rfl⟩) | (go_at_call 55; with_reducible refine (KO.out _).mono ?_; rintro e w' ⟨rfl, rfl⟩))
            go_ret
            exact ⟨ret_bool (by rw [HC.out, e1, e2, e3]; rfl), bel_alloc _ _⟩
          | false =>
            cases x3 with
            | true =>
              go_enter Tryd.func31, Tryd.ntmps31
              go_wp2_with (first | (go_at_call 54; with_reducible refine (KA.out _).mono ?_; rintro e w' ⟨rfl, rfl⟩) | (go_at_call 55; with_reducible refine (KI.out _).mono ?_; rintro e w' ⟨rfl, rfl⟩) | (go_at_call 55; with_reducible refine (KO.out _).mono ?_; rintro e w' ⟨rfl, rfl⟩))
              go_ret
              exact ⟨ret_bool (by rw [HC.out, e1, e2, e3]; rfl), bel_alloc _ _⟩
            | false =>
              go_enter Tryd.func31, Tryd.ntmps31
              go_wp2_with (first | (go_at_call 54; with_reducible refine (KA.out _).mono ?_; rintro e w' ⟨rfl, rfl⟩) | (go_at_call 55; with_reducible refine (KI.out _).mono ?_; rintro e w' ⟨rfl, rfl⟩) | (go_at_call 55; with_reducible refine (KO.out _).mono ?_; rintro e w' ⟨rfl, rfl⟩))
              go_ret
              exact ⟨ret_bool (by rw [HC.out, e1, e2, e3]; rfl), bel_alloc _ _⟩
        | false =>
          go_enter Tryd.func31, Tryd.ntmps31
          go_wp2_with (first | (go_at_call 54; with_reducible refine (KA.out _).mono ?_; rintro e w' ⟨rfl, rfl⟩) | (go_at_call 55; with_reducible refine (KI.out _).mono ?_; rintro e w' ⟨rfl, rfl⟩) | (go_at_call 55; with_reducible refine (KO.out _).mono ?_; rintro e w' ⟨rfl, rfl⟩))
          go_ret
          exact ⟨ret_bool (by rw [HC.out, e1, e2]; first | rfl | (cases c.o.toList.isEmpty <;> cases x3 <;> rfl)), bel_alloc _ _⟩
    | false =>
      go_enter Tryd.func31, Tryd.ntmps31
      go_wp2_with (first | (go_at_call 54; with_reducible refine (KA.out _).mono ?_; rintro e w' ⟨rfl, rfl⟩) | (go_at_call 55; with_reducible refine (KI.out _).mono ?_; rintro e w' ⟨rfl, rfl⟩) | (go_at_call 55; with_reducible refine (KO.out _).mono ?_; rintro e w' ⟨rfl, rfl⟩))
      go_ret
      exact ⟨ret_bool (by rw [HC.out, e1]; first | rfl | (cases c.i.toList.isEmpty <;> cases x2 <;> cases c.o.toList.isEmpty <;> cases x3 <;> rfl)), bel_alloc _ _⟩

end Go.Proofs.YtkcdifanhdakhaaDoor.Con
