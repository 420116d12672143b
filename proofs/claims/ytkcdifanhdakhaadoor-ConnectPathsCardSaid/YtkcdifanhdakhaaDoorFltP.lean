/- Plain facts on lists of violations, and on those of places. -/
import Derived.Test.YtkcdifanhdakhaaDoorPlaK
namespace Go.Proofs.YtkcdifanhdakhaaDoor
open Go.RowKit Go.Shelf
set_option linter.unusedSimpArgs false
set_option linter.unusedVariables false

/-- a violation: its error, and where it is -/
abbrev Flt := Int × ByteArray
def cellsF (l : List Flt) : List Value := l.flatMap fun x => [.int .i64 x.1, .string x.2]
theorem cellsF_len (l : List Flt) : (cellsF l).length = l.length * 2 := by
  induction l with
  | nil => rfl
  | cons x r ih => simp only [cellsF, List.flatMap_cons, List.length_append, List.length_cons, List.length_nil] at ih ⊢; omega
theorem cellsF_app (l m : List Flt) : cellsF (l ++ m) = cellsF l ++ cellsF m := by simp [cellsF]
theorem cellsF_at : ∀ (l : List Flt) (i : Nat) (h : i < l.length), (cellsF l)[i * 2]? = some (.int .i64 l[i].1) ∧ (cellsF l)[i * 2 + 1]? = some (.string l[i].2)
  | [], i, h => by simp at h
  | x :: r, 0, h => by simp [cellsF]
  | x :: r, i + 1, h => by
    have ih := cellsF_at r i (by simpa using h)
    have e : cellsF (x :: r) = .int .i64 x.1 :: .string x.2 :: cellsF r := by simp [cellsF]
    rw [e, show (i + 1) * 2 = i * 2 + 1 + 1 by omega, show i * 2 + 1 + 1 + 1 = (i * 2 + 1) + 1 + 1 by omega]
    simp only [List.getElem?_cons_succ, List.getElem_cons_succ]
    exact ih
/-- the errors that are none are left out -/
def okE (es : List Int) : List Int := es.filter fun e => decide (e ≠ 0)
def pick (s : ByteArray) (es : List Int) : List Flt := (okE es).map fun e => (e, s)
theorem pick_nil (s : ByteArray) : pick s [] = [] := rfl
theorem pick_app (s : ByteArray) (a b : List Int) : pick s (a ++ b) = pick s a ++ pick s b := by simp [pick, okE]
theorem pick_zero (s : ByteArray) : pick s [0] = [] := rfl
theorem pick_one (s : ByteArray) (e : Int) (h : e ≠ 0) : pick s [e] = [(e, s)] := by simp [pick, okE, h]
theorem pick_le (s : ByteArray) (es : List Int) : (pick s es).length ≤ es.length := by
  unfold pick okE
  rw [List.length_map]
  exact List.length_filter_le _ _

/-! ### the violations of places -/
/-- 'airport ' ¦ 'distance ' with an index behind it -/
def airW : ByteArray := ⟨#[97, 105, 114, 112, 111, 114, 116, 32]⟩
def dstW : ByteArray := ⟨#[100, 105, 115, 116, 97, 110, 99, 101, 32]⟩
def decA (i : Nat) : ByteArray := ⟨(Lib.itoa (i : Int)).toArray⟩
def movB (L : List Air) (a : Air) : Bool := L.any fun b => decide (b.city = a.city) && !decide (b.land = a.land)
def airE (L : List Air) (a : Air) : List Int :=
  [if codesB a then 0 else 5, if L.any (fun b => decide (b.code = a.code)) then 6 else 0, if movB L a then 8 else 0, errZ a.off a.shs]
/-- the violations of the first k airports -/
def airF (l : List Air) (k : Nat) : List Flt := (List.range k).flatMap fun i => match l[i]? with
  | some a => pick (airW ++ decA i) (airE (l.take i) a)
  | none => []
theorem airF_zero (l : List Air) : airF l 0 = [] := rfl
theorem airF_succ (l : List Air) (k : Nat) (a : Air) (h : l[k]? = some a) : airF l (k + 1) = airF l k ++ pick (airW ++ decA k) (airE (l.take k) a) := by
  simp [airF, List.range_succ, h]
theorem airF_le (l : List Air) : ∀ k, (airF l k).length ≤ 4 * k
  | 0 => by simp [airF]
  | k + 1 => by
    have ih := airF_le l k
    have e : airF l (k + 1) = airF l k ++ (match l[k]? with | some a => pick (airW ++ decA k) (airE (l.take k) a) | none => []) := by simp [airF, List.range_succ]
    rw [e, List.length_append]
    cases l[k]? with
    | none => simp; omega
    | some a =>
      have := pick_le (airW ++ decA k) (airE (l.take k) a)
      simp only [airE, List.length_cons, List.length_nil] at this ⊢
      omega
def twB (L : List Dst) (d : Dst) : Bool := L.any fun x => (decide (x.f = d.f) && decide (x.t = d.t)) || (decide (x.f = d.t) && decide (x.t = d.f))
def dstE (l : List Air) (L : List Dst) (d : Dst) : List Int :=
  [if l.any (fun b => decide (b.city = d.f)) && l.any (fun b => decide (b.city = d.t)) then 0 else 14, if twB L d then 6 else 0, if useB d && !decide (d.f = d.t) then 0 else 2]
def dstF (l : List Air) (ds : List Dst) (k : Nat) : List Flt := (List.range k).flatMap fun i => match ds[i]? with
  | some d => pick (dstW ++ decA i) (dstE l (ds.take i) d)
  | none => []
theorem dstF_zero (l : List Air) (ds : List Dst) : dstF l ds 0 = [] := rfl
theorem dstF_succ (l : List Air) (ds : List Dst) (k : Nat) (d : Dst) (h : ds[k]? = some d) : dstF l ds (k + 1) = dstF l ds k ++ pick (dstW ++ decA k) (dstE l (ds.take k) d) := by
  simp [dstF, List.range_succ, h]
theorem dstF_le (l : List Air) (ds : List Dst) : ∀ k, (dstF l ds k).length ≤ 3 * k
  | 0 => by simp [dstF]
  | k + 1 => by
    have ih := dstF_le l ds k
    have e : dstF l ds (k + 1) = dstF l ds k ++ (match ds[k]? with | some d => pick (dstW ++ decA k) (dstE l (ds.take k) d) | none => []) := by simp [dstF, List.range_succ]
    rw [e, List.length_append]
    cases ds[k]? with
    | none => simp; omega
    | some d =>
      have := pick_le (dstW ++ decA k) (dstE l (ds.take k) d)
      simp only [dstE, List.length_cons, List.length_nil] at this ⊢
      omega
/-- all violations of places -/
def chkP (p : PV) : List Flt := airF p.l p.l.length ++ dstF p.l p.ds p.ds.length

/-! ### the map of the cities of several countries -/
def sevB (L : List Air) (c : ByteArray) : Bool := match L.find? (fun b => decide (b.city = c)) with
  | none => false
  | some f => L.any fun b => decide (b.city = c) && !decide (b.land = f.land)
theorem find_none_city {L : List Air} {c : ByteArray} (h : L.find? (fun b => decide (b.city = c)) = none) {b : Air} (hb : b ∈ L) : b.city ≠ c := by
  have := List.find?_eq_none.1 h b hb
  simpa using this
theorem sev_other (L : List Air) (a : Air) (c : ByteArray) (h : c ≠ a.city) : sevB (L ++ [a]) c = sevB L c := by
  have h' : ¬ a.city = c := fun e => h e.symm
  unfold sevB
  rw [List.find?_append]
  simp only [List.find?_cons, h', decide_false, List.find?_nil, Option.or_none]
  cases L.find? (fun b => decide (b.city = c)) with
  | none => rfl
  | some f => simp [h']
theorem sev_new (L : List Air) (a : Air) (h : L.find? (fun b => decide (b.city = a.city)) = none) : sevB (L ++ [a]) = sevB L ∧ movB L a = false := by
  have hm : movB L a = false := by
    unfold movB
    rw [List.any_eq_false]
    intro b hb
    simp [find_none_city h hb]
  refine ⟨?_, hm⟩
  funext c
  by_cases e : c = a.city
  · subst e
    unfold sevB
    rw [List.find?_append, h]
    simp
    intro b hb e
    exact absurd e (find_none_city h hb)
  · exact sev_other L a c e
theorem sev_diff (L : List Air) (a f : Air) (h : L.find? (fun b => decide (b.city = a.city)) = some f) (hl : f.land ≠ a.land) : (∀ c, sevB (L ++ [a]) c = (decide (c = a.city) || sevB L c)) ∧ movB L a = true := by
  have hf := List.find?_some h
  have hmem := List.mem_of_find?_eq_some h
  have hm : movB L a = true := by
    unfold movB
    rw [List.any_eq_true]
    exact ⟨f, hmem, by simp at hf; simp [hf, hl]⟩
  refine ⟨fun c => ?_, hm⟩
  by_cases e : c = a.city
  · subst e
    unfold sevB
    rw [List.find?_append, h]
    simp only [Option.some_or, decide_true, Bool.true_or]
    rw [List.any_eq_true]
    exact ⟨a, by simp, by simp; exact fun e => hl e.symm⟩
  · rw [sev_other L a c e]
    simp [e]
theorem sev_same (L : List Air) (a f : Air) (h : L.find? (fun b => decide (b.city = a.city)) = some f) (hl : f.land = a.land) : sevB (L ++ [a]) = sevB L ∧ movB L a = sevB L a.city := by
  refine ⟨?_, ?_⟩
  · funext c
    by_cases e : c = a.city
    · subst e
      unfold sevB
      rw [List.find?_append, h]
      simp [hl]
    · exact sev_other L a c e
  · unfold sevB movB
    rw [h]
    simp [hl]

/-! ### the order of texts -/
theorem less_asym : ∀ x y : List UInt8, Op.bytesLess x y = true → Op.bytesLess y x = false
  | _, [], h => by simp [Op.bytesLess] at h
  | [], _ :: _, _ => rfl
  | a :: x, b :: y, h => by
    simp only [Op.bytesLess, Bool.or_eq_true, decide_eq_true_eq, Bool.and_eq_true, beq_iff_eq] at h
    have hlt : ∀ u v : UInt8, u < v ↔ u.toNat < v.toNat := fun u v => UInt8.lt_iff_toNat_lt
    rcases h with h | ⟨rfl, h⟩
    · have h1 : ¬ b < a := by rw [hlt] at h ⊢; omega
      have h2 : ¬ b = a := by rintro rfl; rw [hlt] at h; omega
      simp [Op.bytesLess, h1, h2]
    · have h1 : ¬ a < a := by rw [hlt]; omega
      simp [Op.bytesLess, h1, less_asym x y h]
theorem less_total : ∀ x y : List UInt8, Op.bytesLess x y = false → x ≠ y → Op.bytesLess y x = true
  | [], [], _, h => absurd rfl h
  | _ :: _, [], _, _ => rfl
  | [], _ :: _, h, _ => by simp [Op.bytesLess] at h
  | a :: x, b :: y, h, hne => by
    simp only [Op.bytesLess, Bool.or_eq_false_iff, decide_eq_false_iff_not, Bool.and_eq_false_iff] at h
    have hlt : ∀ u v : UInt8, u < v ↔ u.toNat < v.toNat := fun u v => UInt8.lt_iff_toNat_lt
    by_cases e : a = b
    · subst e
      have h1 : Op.bytesLess x y = false := by rcases h.2 with h | h; exact absurd h (by simp); exact h
      have := less_total x y h1 (fun e => hne (by rw [e]))
      simp [Op.bytesLess, this]
    · have h1 : b < a := by
        have h0 := h.1
        have h2 : a.toNat ≠ b.toNat := fun h => e (UInt8.toNat_inj.1 h)
        rw [hlt] at h0 ⊢
        omega
      simp [Op.bytesLess, h1]
/-- two texts in their order -/
def ordP (a b : ByteArray) : ByteArray × ByteArray := if Op.bytesLess a.toList b.toList then (a, b) else (b, a)
theorem toList_ne {a b : ByteArray} (h : a ≠ b) : a.toList ≠ b.toList := fun e => h ((eqS_iff a b).1 (by unfold eqS; rw [e]; simp))
theorem ordP_comm (a b : ByteArray) : ordP a b = ordP b a := by
  unfold ordP
  by_cases e : a = b
  · subst e; rfl
  · cases h : Op.bytesLess a.toList b.toList
    · rw [less_total _ _ h (toList_ne e)]; simp
    · rw [less_asym _ _ h]; simp
theorem ordP_eq (a b c d : ByteArray) : ordP a b = ordP c d ↔ (a = c ∧ b = d) ∨ (a = d ∧ b = c) := by
  constructor
  · intro h
    unfold ordP at h
    split at h <;> split at h <;> simp only [Prod.mk.injEq] at h <;> simp [h]
  · rintro (⟨rfl, rfl⟩ | ⟨rfl, rfl⟩)
    · rfl
    · exact ordP_comm _ _
variable {P : Program}
theorem run_min_str (a b : ByteArray) (ts : Array TypeId) (t : TypeId) (w : World) : (Builtin.min_ ts t #[.string a, .string b]).run P w = .ok (.string (ordP a b).1) w := by
  unfold ordP
  cases h : Op.bytesLess a.toList b.toList
  · by_cases e : a.toList = b.toList
    · have e2 : a = b := (eqS_iff a b).1 (by unfold eqS; rw [e]; simp)
      subst e2
      simp [Builtin.min_, Builtin.min2, Op.stringOp, h, go_sem]
    · simp [Builtin.min_, Builtin.min2, Op.stringOp, h, go_sem, e]
  · simp [Builtin.min_, Builtin.min2, Op.stringOp, h, go_sem]
theorem run_max_str (a b : ByteArray) (ts : Array TypeId) (t : TypeId) (w : World) : (Builtin.max_ ts t #[.string a, .string b]).run P w = .ok (.string (ordP a b).2) w := by
  unfold ordP
  cases h : Op.bytesLess a.toList b.toList <;> simp [Builtin.max_, Builtin.max2, Op.stringOp, h, go_sem]
theorem tw_iff (L : List Dst) (d : Dst) : twB L d = L.any fun x => decide (ordP x.f x.t = ordP d.f d.t) := by
  unfold twB
  congr 1
  funext x
  have := ordP_eq x.f x.t d.f d.t
  by_cases h : ordP x.f x.t = ordP d.f d.t
  · rw [decide_eq_true h]
    rcases this.1 h with ⟨h1, h2⟩ | ⟨h1, h2⟩ <;> simp [h1, h2]
  · rw [decide_eq_false h]
    have h2 := fun e => h (this.2 e)
    rw [Bool.or_eq_false_iff]
    constructor
    · rw [Bool.and_eq_false_iff]; by_cases h1 : x.f = d.f
      · right; simp; exact fun e => h2 (.inl ⟨h1, e⟩)
      · left; simp [h1]
    · rw [Bool.and_eq_false_iff]; by_cases h1 : x.f = d.t
      · right; simp; exact fun e => h2 (.inr ⟨h1, e⟩)
      · left; simp [h1]

end Go.Proofs.YtkcdifanhdakhaaDoor
