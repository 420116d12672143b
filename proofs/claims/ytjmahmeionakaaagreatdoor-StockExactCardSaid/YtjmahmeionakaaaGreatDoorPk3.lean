/- Words and walks that the laws below ask: CabP, CabA. -/
import Derived.Test.YtjmahmeionakaaaGreatDoorPk2
/- Plain facts on configurations of aircraft, and their words in memory. -/
namespace Go.Proofs.YtjmahmeionakaaaGreatDoor
open Go.RowKit Go.Shelf
set_option linter.unusedSimpArgs false
set_option linter.unusedVariables false

structure Cl where
  code : ByteArray
  prot : Int
structure Cb where
  name : ByteArray
  seats : Int
  over : Int
  A : Option Addr
  c : Nat
  l : List Cl
structure Cf where
  equip : ByteArray
  A : Option Addr
  c : Nat
  l : List Cb
def encCl (x : Cl) : List Value := [.string x.code, .int .i64 x.prot]
def encCb (x : Cb) : List Value := [.string x.name, .int .i64 x.seats, .int .i64 x.over, .slice x.A x.l.length x.c]
def encCf (x : Cf) : List Value := [.string x.equip, .slice x.A x.l.length x.c]
abbrev aggCl (x : Cl) : Value := .agg #[.string x.code, .int .i64 x.prot]
abbrev aggCb (x : Cb) : Value := .agg #[.string x.name, .int .i64 x.seats, .int .i64 x.over, .slice x.A x.l.length x.c]
abbrev aggCf (x : Cf) : Value := .agg #[.string x.equip, .slice x.A x.l.length x.c]
abbrev clT : TypeId := 111
abbrev cbT : TypeId := 96
abbrev cfT : TypeId := 81
abbrev ClL (w : World) (v : Value) (l : List Cl) : Prop := RowL 2 encCl w v l
/-- the classes of a cabin, the cabins of a configuration lie in memory -/
def CbAt (w : World) (b : Cb) : Prop := ClL w (.slice b.A b.l.length b.c) b.l
def CbL (w : World) (v : Value) (l : List Cb) : Prop := RowL 4 encCb w v l ∧ ∀ b ∈ l, CbAt w b
def CfAt (w : World) (f : Cf) : Prop := CbL w (.slice f.A f.l.length f.c) f.l
def CfL (w : World) (v : Value) (l : List Cf) : Prop := RowL 2 encCf w v l ∧ ∀ f ∈ l, CfAt w f
theorem CbAt.more {w w' : World} {b : Cb} (h : CbAt w b) (hb : Below w.heap.size w w') : CbAt w' b := RowL.more h hb
theorem CbL.more {w w' : World} {v : Value} {l : List Cb} (h : CbL w v l) (hb : Below w.heap.size w w') : CbL w' v l := ⟨h.1.more hb, fun b hm => (h.2 b hm).more hb⟩
theorem CfAt.more {w w' : World} {f : Cf} (h : CfAt w f) (hb : Below w.heap.size w w') : CfAt w' f := CbL.more h hb
theorem CfL.more {w w' : World} {v : Value} {l : List Cf} (h : CfL w v l) (hb : Below w.heap.size w w') : CfL w' v l := ⟨h.1.more hb, fun b hm => (h.2 b hm).more hb⟩

/-! ### sizes -/
structure OkCl (x : Cl) : Prop where
  code : x.code.size ≤ maxLen
  lo : -9223372036854775808 ≤ x.prot
  hi : x.prot ≤ 9223372036854775807
structure OkCb (b : Cb) : Prop where
  name : b.name.size ≤ maxLen
  len : b.l.length ≤ 30
  cls : ∀ x ∈ b.l, OkCl x
structure OkCf (f : Cf) : Prop where
  equip : f.equip.size ≤ maxLen
  len : f.l.length ≤ 8
  cab : ∀ b ∈ f.l, OkCb b

/-! ### violations -/
def whC (b : Bool) (e : Int) : Int := if b = true then e else 0
theorem pick_wh (s : ByteArray) (b : Bool) (e : Int) (he : e ≠ 0) : pick s [whC b e] = if b = true then [(e, s)] else [] := by
  cases b
  · rfl
  · exact pick_one s e he
def sizB (b : Cb) : Bool := decide (1 ≤ b.seats) && decide (b.seats ≤ 999) && decide (0 ≤ b.over) && decide (b.over ≤ 999)
/-- the least number that the class k may protect, the most that a class may -/
def leastP (l : List Cl) : Nat → Int
  | 0 => 0
  | k + 1 => match l[k]? with
    | some x => if x.prot < 0 then 0 else x.prot
    | none => 0
def mostP (b : Cb) : Int := if sizB b = true then b.seats + b.over else 9223372036854775807
def badP (b : Cb) (k : Nat) (x : Cl) : Bool := decide (x.prot < leastP b.l k) || decide (mostP b < x.prot)
def anyS (L : List ByteArray) (s : ByteArray) : Bool := L.any fun c => decide (c = s)
def badN (n : Nat) (m : Int) : Bool := decide ((n : Int) < 1) || decide (m < (n : Int))
/-- ' class ' ¦ ' cabin ' ¦ 'config ' -/
def clsW : ByteArray := ⟨#[32, 99, 108, 97, 115, 115, 32]⟩
def cabW : ByteArray := ⟨#[32, 99, 97, 98, 105, 110, 32]⟩
def conW : ByteArray := ⟨#[99, 111, 110, 102, 105, 103, 32]⟩
def codesC (l : List Cl) : List ByteArray := l.map Cl.code
def codesB (l : List Cb) : List ByteArray := l.flatMap fun b => codesC b.l
def clsE (S : List ByteArray) (b : Cb) (k : Nat) (x : Cl) : List Int := [whC (!capsB x.code 1) 16, whC (anyS (S ++ codesC (b.l.take k)) x.code) 6, whC (badP b k x) 2]
/-- the pieces of the first k elements, one after another -/
def flatG {α β : Type} (l : List α) (g : Nat → α → List β) (k : Nat) : List β := (List.range k).flatMap fun i => match l[i]? with
  | some x => g i x
  | none => []
theorem flat_succ {α β : Type} (l : List α) (g : Nat → α → List β) (k : Nat) (x : α) (h : l[k]? = some x) : flatG l g (k + 1) = flatG l g k ++ g k x := by
  unfold flatG
  rw [List.range_succ, List.flatMap_append, List.flatMap_cons, List.flatMap_nil, List.append_nil, h]
theorem flat_le {α β : Type} (l : List α) (g : Nat → α → List β) (m : Nat) (hm : ∀ i x, l[i]? = some x → (g i x).length ≤ m) : ∀ k, (flatG l g k).length ≤ m * k
  | 0 => Nat.le_refl _
  | k + 1 => by
    have ih := flat_le l g m hm k
    unfold flatG at ih ⊢
    rw [List.range_succ, List.flatMap_append, List.flatMap_cons, List.flatMap_nil, List.append_nil, List.length_append, Nat.mul_succ]
    cases h : l[k]? with
    | none => simp only [List.length_nil]; omega
    | some x => have := hm k x h; simp only; omega
def clsF (at_ : ByteArray) (S : List ByteArray) (b : Cb) (k : Nat) : List Flt := flatG b.l (fun i x => pick (at_ ++ clsW ++ decA i) (clsE S b i x)) k
def cabE (l : List Cb) (k : Nat) (b : Cb) : List Int := [whC (!codeB b.name 1 8) 5, whC (anyS ((l.take k).map Cb.name) b.name) 6, whC (!sizB b) 2, whC (badN b.l.length 26) 4]
def cabF (at_ : ByteArray) (l : List Cb) (k : Nat) : List Flt := flatG l (fun i b => pick (at_ ++ cabW ++ decA i) (cabE l i b) ++ clsF (at_ ++ cabW ++ decA i) (codesB (l.take i)) b b.l.length) k
def conE (l : List Cf) (k : Nat) (f : Cf) : List Int := [whC (!codeB f.equip 3 3) 5, whC (anyS ((l.take k).map Cf.equip) f.equip) 6, whC (badN f.l.length 4) 4]
def conF (l : List Cf) (k : Nat) : List Flt := flatG l (fun i f => pick (conW ++ decA i) (conE l i f) ++ cabF (conW ++ decA i) f.l f.l.length) k
theorem clsF_succ (at_ : ByteArray) (S : List ByteArray) (b : Cb) (k : Nat) (x : Cl) (h : b.l[k]? = some x) : clsF at_ S b (k + 1) = clsF at_ S b k ++ pick (at_ ++ clsW ++ decA k) (clsE S b k x) := flat_succ b.l (fun i x => pick (at_ ++ clsW ++ decA i) (clsE S b i x)) k x h
theorem clsF_le (at_ : ByteArray) (S : List ByteArray) (b : Cb) (k : Nat) : (clsF at_ S b k).length ≤ 3 * k := flat_le b.l (fun i x => pick (at_ ++ clsW ++ decA i) (clsE S b i x)) 3 (fun i x _ => pick_le _ _) k
theorem cabF_succ (at_ : ByteArray) (l : List Cb) (k : Nat) (b : Cb) (h : l[k]? = some b) : cabF at_ l (k + 1) = cabF at_ l k ++ (pick (at_ ++ cabW ++ decA k) (cabE l k b) ++ clsF (at_ ++ cabW ++ decA k) (codesB (l.take k)) b b.l.length) := flat_succ l (fun i b => pick (at_ ++ cabW ++ decA i) (cabE l i b) ++ clsF (at_ ++ cabW ++ decA i) (codesB (l.take i)) b b.l.length) k b h
theorem cabF_le (at_ : ByteArray) (l : List Cb) (hl : ∀ b ∈ l, b.l.length ≤ 30) (k : Nat) : (cabF at_ l k).length ≤ 94 * k := flat_le l (fun i b => pick (at_ ++ cabW ++ decA i) (cabE l i b) ++ clsF (at_ ++ cabW ++ decA i) (codesB (l.take i)) b b.l.length) 94 (fun i b h => by
  have h1 := pick_le (at_ ++ cabW ++ decA i) (cabE l i b)
  have h2 := clsF_le (at_ ++ cabW ++ decA i) (codesB (l.take i)) b b.l.length
  have h3 := hl b (List.mem_of_getElem? h)
  have h4 : (cabE l i b).length = 4 := rfl
  rw [List.length_append]; omega) k
theorem conF_succ (l : List Cf) (k : Nat) (f : Cf) (h : l[k]? = some f) : conF l (k + 1) = conF l k ++ (pick (conW ++ decA k) (conE l k f) ++ cabF (conW ++ decA k) f.l f.l.length) := flat_succ l (fun i f => pick (conW ++ decA i) (conE l i f) ++ cabF (conW ++ decA i) f.l f.l.length) k f h
theorem conF_le (l : List Cf) (hl : ∀ f ∈ l, OkCf f) (k : Nat) : (conF l k).length ≤ 755 * k := flat_le l (fun i f => pick (conW ++ decA i) (conE l i f) ++ cabF (conW ++ decA i) f.l f.l.length) 755 (fun i f h => by
  have hf := hl f (List.mem_of_getElem? h)
  have h1 := pick_le (conW ++ decA i) (conE l i f)
  have h2 := cabF_le (conW ++ decA i) f.l (fun b hb => (hf.cab b hb).len) f.l.length
  have h3 := hf.len
  have h4 : (conE l i f).length = 3 := rfl
  rw [List.length_append]; omega) k

/-! ### the maps -/
def gS (L : List ByteArray) (c : ByteArray) : Option Value := if anyS L c then some (.bool true) else none
theorem gS_put (L : List ByteArray) (s : ByteArray) : (fun q => if q = s then some (Value.bool true) else gS L q) = gS (L ++ [s]) := by
  funext q
  unfold gS anyS
  rw [List.any_append, List.any_cons, List.any_nil]
  by_cases e : q = s
  · subst e; simp
  · have e' : ¬ s = q := fun h => e h.symm
    rw [if_neg e, decide_eq_false e', Bool.or_false, Bool.or_false]
theorem gS_get (L : List ByteArray) (c : ByteArray) : (gS L c).getD (.bool false) = .bool (anyS L c) := by
  unfold gS
  cases anyS L c <;> rfl
theorem gS_nil : gS [] = fun _ => none := by funext q; rfl
theorem codesC_snoc (l : List Cl) (k : Nat) (x : Cl) (h : l[k]? = some x) : codesC (l.take (k + 1)) = codesC (l.take k) ++ [x.code] := by
  rw [List.take_add_one, h]; simp [codesC]
theorem codesB_snoc (l : List Cb) (k : Nat) (b : Cb) (h : l[k]? = some b) : codesB (l.take (k + 1)) = codesB (l.take k) ++ codesC b.l := by
  rw [List.take_add_one, h]; simp [codesB]
theorem map_snoc {α β : Type} (f : α → β) (l : List α) (k : Nat) (x : α) (h : l[k]? = some x) : (l.take (k + 1)).map f = (l.take k).map f ++ [f x] := by
  rw [List.take_add_one, h]; simp
theorem anyS_snoc (L : List ByteArray) (c s : ByteArray) : anyS (L ++ [c]) s = (anyS L s || (c.toList == s.toList)) := by
  have h : decide (c = s) = eqS c s := by
    rw [Bool.eq_iff_iff, eqS_iff, decide_eq_true_iff]
  unfold anyS
  rw [List.any_append, List.any_cons, List.any_nil, Bool.or_false, h]
  rfl

/-! ### the reference's words -/
/-- whether a number of protected seats is wrong, as the reference asks -/
theorem badP_ref (b : Cb) (k : Nat) (x y : Cl) (h : 0 < k → b.l[k - 1]? = some y) (hx : x.prot ≤ 9223372036854775807) :
    badP b k x = (decide (x.prot < 0) || (decide (0 < k) && decide (x.prot < y.prot)) || (sizB b && decide (b.seats + b.over < x.prot))) := by
  unfold badP mostP
  have h1 : decide (x.prot < leastP b.l k) = (decide (x.prot < 0) || (decide (0 < k) && decide (x.prot < y.prot))) := by
    cases k with
    | zero => rw [Bool.eq_iff_iff]; simp [leastP]; exact decide_eq_true_iff
    | succ k =>
      have h := h (by omega)
      rw [Nat.add_sub_cancel] at h
      simp only [leastP, h]
      rw [Bool.eq_iff_iff]
      simp only [decide_eq_true_eq, Bool.or_eq_true, Bool.and_eq_true]
      split <;> omega
  rw [h1]
  congr 1
  cases sizB b with
  | true => simp
  | false => simp; omega
theorem app_assoc (a b c : ByteArray) : a ++ b ++ c = a ++ (b ++ c) := by
  apply ByteArray.ext
  simp [ByteArray.data_append, Array.append_assoc]
/-- 'word' with a space behind it, and one before it where a path stands ahead -/
def clsR : ByteArray := ⟨#[99, 108, 97, 115, 115]⟩
def cabR : ByteArray := ⟨#[99, 97, 98, 105, 110]⟩
def conR : ByteArray := ⟨#[99, 111, 110, 102, 105, 103]⟩
def spA : ByteArray := ⟨#[32]⟩
theorem cls_path (p d : ByteArray) : p ++ spA ++ clsR ++ spA ++ d = p ++ clsW ++ d := by
  rw [show p ++ spA ++ clsR ++ spA = p ++ clsW by rw [app_assoc, app_assoc]; rfl]
theorem cab_path (p d : ByteArray) : p ++ spA ++ cabR ++ spA ++ d = p ++ cabW ++ d := by
  rw [show p ++ spA ++ cabR ++ spA = p ++ cabW by rw [app_assoc, app_assoc]; rfl]
theorem con_path (d : ByteArray) : noB ++ conR ++ spA ++ d = conW ++ d := rfl
theorem rowCl : RT Tryz.prog 94 clT 2 encCl where
  ht := Tryz.underlying94
  info := ⟨.agg #[.string noB, .int .i64 0], 24, by kernel_rfl, rfl, by omega⟩
  len x := rfl
  one x u hu := by simp [encCl] at hu; rcases hu with rfl | rfl <;> rfl
  pos := by omega
theorem rowCb : RT Tryz.prog 79 cbT 4 encCb where
  ht := Tryz.underlying79
  info := ⟨.agg #[.string noB, .int .i64 0, .int .i64 0, .slice none 0 0], 56, by kernel_rfl, rfl, by omega⟩
  len x := rfl
  one x u hu := by simp [encCb] at hu; rcases hu with rfl | rfl | rfl | rfl <;> rfl
  pos := by omega
end Go.Proofs.YtjmahmeionakaaaGreatDoor

/- Walks of the small functions on cabins: isSized, inRange, Authorized, place. -/
namespace Go.Proofs.YtjmahmeionakaaaGreatDoor
open Go.RowKit Go.Shelf
set_option linter.unusedSimpArgs false
set_option linter.unusedVariables false

set_option maxHeartbeats 1000000 in
theorem isSized_any (b : Cb) (w : World) : Calls Tryz.prog 125 #[aggCb b] w fun e w' => e = .returned (.bool (sizB b)) ∧ Below w.heap.size w w' := by
  have HU : Hid (sizB b = (decide (1 ≤ b.seats) && decide (b.seats ≤ 999) && decide (0 ≤ b.over) && decide (b.over ≤ 999))) := Lib.hid rfl
  by_cases h1 : 1 ≤ b.seats
  · by_cases h2 : b.seats ≤ 999
    · by_cases h3 : 0 ≤ b.over
      all_goals
        go_enter Tryz.func125, Tryz.ntmps125
        go_wp2
        go_ret
        exact ⟨ret_bool (by rw [HU.out]; first | (simp [h1, h2, h3]; done) | (simp [h1, h2, h3]; omega)), bel_alloc _ _⟩
    · go_enter Tryz.func125, Tryz.ntmps125
      go_wp2
      go_ret
      exact ⟨ret_bool (by rw [HU.out]; first | (simp [h1, h2]; done) | (simp [h1, h2]; omega)), bel_alloc _ _⟩
  · go_enter Tryz.func125, Tryz.ntmps125
    go_wp2
    go_ret
    exact ⟨ret_bool (by rw [HU.out]; first | (simp [h1]; done) | (simp [h1]; omega)), bel_alloc _ _⟩
set_option maxHeartbeats 1000000 in
theorem inRange_any (b : Cb) (w : World) : Calls Tryz.prog 114 #[aggCb b] w fun e w' => e = .returned (.bool (sizB b)) ∧ Below w.heap.size w w' := by
  have HU : Hid (sizB b = (decide (1 ≤ b.seats) && decide (b.seats ≤ 999) && decide (0 ≤ b.over) && decide (b.over ≤ 999))) := Lib.hid rfl
  by_cases h1 : 1 ≤ b.seats
  · by_cases h2 : b.seats ≤ 999
    · by_cases h3 : 0 ≤ b.over
      all_goals
        go_enter Tryz.func114, Tryz.ntmps114
        go_wp2
        go_ret
        exact ⟨ret_bool (by rw [HU.out]; first | (simp [h1, h2, h3]; done) | (simp [h1, h2, h3]; omega)), bel_alloc _ _⟩
    · go_enter Tryz.func114, Tryz.ntmps114
      go_wp2
      go_ret
      exact ⟨ret_bool (by rw [HU.out]; first | (simp [h1, h2]; done) | (simp [h1, h2]; omega)), bel_alloc _ _⟩
  · go_enter Tryz.func114, Tryz.ntmps114
    go_wp2
    go_ret
    exact ⟨ret_bool (by rw [HU.out]; first | (simp [h1]; done) | (simp [h1]; omega)), bel_alloc _ _⟩
theorem sizB_in {b : Cb} (h : sizB b = true) : 1 ≤ b.seats ∧ b.seats ≤ 999 ∧ 0 ≤ b.over ∧ b.over ≤ 999 := by
  simp only [sizB, Bool.and_eq_true, decide_eq_true_eq] at h
  exact ⟨h.1.1.1, h.1.1.2, h.1.2, h.2⟩
/-- the sum, as the machine adds -/
theorem auth_any (b : Cb) (w : World) (h : sizB b = true) : Calls Tryz.prog 80 #[aggCb b] w fun e w' => e = .returned (.int .i64 (b.seats + b.over)) ∧ Below w.heap.size w w' := by
  obtain ⟨h1, h2, h3, h4⟩ := sizB_in h
  have e1 : IntKind.i64.wrap (b.seats + b.over) = b.seats + b.over := by rw [IntKind.wrap_i64]; omega
  go_enter Tryz.func80, Tryz.ntmps80
  go_wp2
  go_ret
  exact ⟨rfl, bel_alloc _ _⟩
theorem rauth_any (b : Cb) (w : World) (h : sizB b = true) : Calls Tryz.prog 102 #[aggCb b] w fun e w' => e = .returned (.int .i64 (b.seats + b.over)) ∧ Below w.heap.size w w' := by
  obtain ⟨h1, h2, h3, h4⟩ := sizB_in h
  have e1 : IntKind.i64.wrap (b.seats + b.over) = b.seats + b.over := by rw [IntKind.wrap_i64]; omega
  go_enter Tryz.func102, Tryz.ntmps102
  go_wp2
  go_ret
  exact ⟨rfl, bel_alloc _ _⟩
set_option maxHeartbeats 1000000 in
/-- a path without anything ahead, and one behind another -/
theorem rplace0_any (w0 : ByteArray) (k : Nat) (w : World) (hk : k < 100) (hw : w0.size ≤ 100) : Calls Tryz.prog 74 #[.string ⟨#[]⟩, .string w0, .int .i64 (k : Int)] w fun e w' => e = .returned (.string (noB ++ w0 ++ spA ++ decA k)) ∧ Below w.heap.size w w' := by
  have KD := Lib.hid (fun W => rdec_small k (by omega) W)
  have hd := decA_size k hk
  have s0 : noB.size = 0 := rfl
  have s1 : spA.size = 1 := rfl
  have a1 : ∀ W : World, (Op.stringOp .add (⟨#[]⟩ : ByteArray) w0).run Tryz.prog W = .ok (.string (noB ++ w0)) W := fun W => run_string_add_sum W _ _ (by have : (⟨#[]⟩ : ByteArray).size = 0 := rfl; omega)
  have a2 : ∀ W : World, (Op.stringOp .add (noB ++ w0) (⟨#[32]⟩ : ByteArray)).run Tryz.prog W = .ok (.string (noB ++ w0 ++ spA)) W := fun W => run_string_add_sum W _ _ (by have : (⟨#[32]⟩ : ByteArray).size = 1 := rfl; simp only [ByteArray.size_append]; omega)
  have a3 : ∀ W : World, (Op.stringOp .add (noB ++ w0 ++ spA) (decA k)).run Tryz.prog W = .ok (.string (noB ++ w0 ++ spA ++ decA k)) W := fun W => run_string_add_sum W _ _ (by simp only [ByteArray.size_append]; omega)
  clear hd s0 s1
  generalize noB ++ w0 = x1 at *
  generalize x1 ++ spA = x2 at *
  generalize decA k = dk at *
  go_enter Tryz.func74, Tryz.ntmps74
  go_wp2_with (go_at_call 111; refine (KD.out _).mono ?_; rintro e w' ⟨rfl, hb⟩)
  go_ret
  exact ⟨rfl, hb⟩
set_option maxHeartbeats 1000000 in
theorem rplace_any (p w0 : ByteArray) (k : Nat) (w : World) (hk : k < 100) (hw : w0.size ≤ 100) (hp : 0 < p.size) (hp2 : p.size ≤ 1000) : Calls Tryz.prog 74 #[.string p, .string w0, .int .i64 (k : Int)] w fun e w' => e = .returned (.string (p ++ spA ++ w0 ++ spA ++ decA k)) ∧ Below w.heap.size w w' := by
  have KD := Lib.hid (fun W => rdec_small k (by omega) W)
  have hd := decA_size k hk
  have s1 : spA.size = 1 := rfl
  have s2 : (⟨#[32]⟩ : ByteArray).size = 1 := rfl
  have a0 : ∀ W : World, (Op.stringOp .add p (⟨#[32]⟩ : ByteArray)).run Tryz.prog W = .ok (.string (p ++ spA)) W := fun W => run_string_add_sum W _ _ (by omega)
  have a1 : ∀ W : World, (Op.stringOp .add (p ++ spA) w0).run Tryz.prog W = .ok (.string (p ++ spA ++ w0)) W := fun W => run_string_add_sum W _ _ (by simp only [ByteArray.size_append]; omega)
  have a2 : ∀ W : World, (Op.stringOp .add (p ++ spA ++ w0) (⟨#[32]⟩ : ByteArray)).run Tryz.prog W = .ok (.string (p ++ spA ++ w0 ++ spA)) W := fun W => run_string_add_sum W _ _ (by simp only [ByteArray.size_append]; omega)
  have a3 : ∀ W : World, (Op.stringOp .add (p ++ spA ++ w0 ++ spA) (decA k)).run Tryz.prog W = .ok (.string (p ++ spA ++ w0 ++ spA ++ decA k)) W := fun W => run_string_add_sum W _ _ (by simp only [ByteArray.size_append]; omega)
  have e0 := isEmpty_no p hp
  clear hd s1 s2
  generalize p ++ spA = x0 at *
  generalize x0 ++ w0 = x1 at *
  generalize x1 ++ spA = x2 at *
  generalize decA k = dk at *
  go_enter Tryz.func74, Tryz.ntmps74
  go_wp2_with (go_at_call 111; refine (KD.out _).mono ?_; rintro e w' ⟨rfl, hb⟩)
  go_ret
  exact ⟨rfl, hb⟩
end Go.Proofs.YtjmahmeionakaaaGreatDoor
