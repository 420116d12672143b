/- The library's stable sort, walked: slices.SortStableFunc on at most 160 elements leaves the one stable order. -/
import Derived.Test.YtalnocdgmcchaaaDoorSortD
namespace Go.Proofs.YtalnocdgmcchaaaDoor
open Go.Shelf Go.RowKit Go.Lib Go.Sort
set_option linter.unusedSimpArgs false
set_option linter.unusedVariables false
variable {α : Type} [Inhabited α]

theorem symMerge_all (enc : α → Value) (cf : α → α → Int) (tot : α → α → Bool) (lo : α → α → Prop) (O : Ordd (ltOf cf) tot lo) (g : Nat) (cb : Array Value) (blk off cap : Nat) (d0 : Array α) (w0 : World)
    (eg : ∀ args w, (callFunc g args).run Tryd.prog w = .ok (.enter g args) w) (hcmp : CmpLays1 Tryd.prog g cb enc cf blk off d0.size w0) (R : Row1 enc w0 blk off d0) :
    ∀ N, Merges enc tot lo g cb blk off cap d0 w0 N
  | 0 => fun a m b d w h1 h2 h3 _ _ _ _ _ => by omega
  | N + 1 => fun a m b d w h1 h2 h3 h4 h5 h6 S H => by
    have IH := symMerge_all enc cf tot lo O g cb blk off cap d0 w0 eg hcmp R N
    by_cases hm : m = a + 1
    · exact symMerge_left enc cf tot lo O g cb blk off cap a m b d0 d w0 w eg hcmp R h6 S hm h3 h4 h5 H
    by_cases hb : b = m + 1
    · exact symMerge_right enc cf tot lo O g cb blk off cap a m b d0 d w0 w eg hcmp R h6 S hb (by omega) h4 h5 H
    · exact symMerge_main enc cf tot lo O g cb blk off cap a m b d0 d w0 w eg hcmp R h6 S (by omega) (by omega) h4 h5 H
        (fun a' m' b' d' w' g1 => IH a' m' b' d' w' (by omega))

def insRen : Go.Shelf.Ren := ⟨fun | 20 => 65 | n => n, fun | 0 => 0 | 3 => 3 | 4 => 4 | 22 => 22 | 24 => 3 | 25 => 60 | n => n, fun | n => n⟩
theorem insLays : Go.Proofs.SlLaysF.n20 Tryd.prog insRen := {
  mixed := by kernel_rfl
  f20 := ⟨"slices.insertionSortCmpFunc[int]", by kernel_rfl, Tryd.func65.trans (congrArg some (by kernel_rfl))⟩
  t0 := Tryd.underlying0
  a0 := Tryd.isAgg0
  z0 := Tryd.sizeOf0
  v0 := Tryd.zeroValue0
  t3 := Tryd.underlying3
  a3 := Tryd.isAgg3
  z3 := Tryd.sizeOf3
  v3 := Tryd.zeroValue3
  t4 := Tryd.underlying4
  a4 := Tryd.isAgg4
  z4 := Tryd.sizeOf4
  v4 := Tryd.zeroValue4
  t22 := Tryd.underlying22
  a22 := Tryd.isAgg22
  z22 := Tryd.sizeOf22
  v22 := Tryd.zeroValue22
  a24 := Tryd.isAgg3
  z24 := Tryd.sizeOf3
  t25 := Tryd.underlying60
  a25 := Tryd.isAgg60
  z25 := Tryd.sizeOf60
  v25 := Tryd.zeroValue60 }

/-- the insertion sort on the places a ≤ k < b, which stand in their first order -/
theorem insertion_s (enc : α → Value) (cf : α → α → Int) (tot : α → α → Bool) (lo : α → α → Prop) (O : Ordd (ltOf cf) tot lo) (g : Nat) (cb : Array Value) (blk off cap a b : Nat) (d0 d : Array α) (w0 w : World)
    (eg : ∀ args w, (callFunc g args).run Tryd.prog w = .ok (.enter g args) w) (hcmp : CmpLays1 Tryd.prog g cb enc cf blk off d0.size w0) (R : Row1 enc w0 blk off d0)
    (hs : d0.size = d.size) (S : SW enc w0 blk off d w) (hab : a ≤ b) (hb : b ≤ d.size) (hsz : d.size < 4611686018427387904) (H : ∀ k m, a ≤ k → k < m → m < b → lo d[k]! d[m]!) :
    Calls Tryd.prog 65 #[.slice (some ⟨blk, off, none⟩) d.size cap, .int .i64 a, .int .i64 b, .func (.func g) #[] cb] w
      (Left enc w0 blk off fun d' => PermIn a b d d' ∧ SortedIn tot a b d') := by
  have h := Any.insertionSortCmpFunc_s insLays enc cf g cb blk off cap a b d0 d w0 w eg hcmp R hs S hab hb hsz
  change Calls Tryd.prog 65 _ _ _ at h
  exact h.mono fun e w' ⟨he, hS⟩ => ⟨he, _, insertion_stable O a b d hab hb H, hS⟩

/-- the labels of the blocks: those below a are sorted in blocks of B, the rest stands as it stood -/
def labI (a : Nat) (i : Nat) : Nat := if i < a then i / 20 else 1000 + i
/-- those below a are sorted in blocks of C, the rest in blocks of B -/
def labM (C B a : Nat) (i : Nat) : Nat := if i < a then i / C else 1000 + i / B

section
variable {tot : α → α → Bool} {lo : α → α → Prop}
theorem labI_step {n a b : Nat} {d d' : Array α} (h : Lab tot lo n (labI a) d) (ha : a % 20 = 0) (hab : a ≤ b) (hb : b ≤ n) (hb2 : b ≤ a + 20) (hbn : b = a + 20 ∨ b = n) (hn : n ≤ d.size) (h160 : n ≤ 160)
    (p : PermIn a b d d') (s : SortedIn tot a b d') : Lab tot lo n (labI b) d' := by
  refine h.step hb hn p s (fun i j h1 h2 h3 => ?_) (fun i j h1 h2 h3 => ?_) (fun i j h1 h2 h3 => ?_)
  · unfold labI; rw [if_pos (by omega), if_pos (by omega)]; omega
  · unfold labI
    repeat' split
    all_goals omega
  · unfold labI
    repeat' split
    all_goals omega
theorem labI_first {n : Nat} {d : Array α} (h : ∀ i j, i < j → j < n → lo d[i]! d[j]!) : Lab tot lo n (labI 0) d := fun i j h1 h2 =>
  ⟨fun h3 => by unfold labI at h3; rw [if_neg (by omega), if_neg (by omega)] at h3; omega, fun _ => h i j h1 h2⟩
theorem labI_asc {n a b : Nat} {d : Array α} (h : Lab tot lo n (labI a) d) (hb : b ≤ n) (k m : Nat) (h1 : a ≤ k) (h2 : k < m) (h3 : m < b) : lo d[k]! d[m]! :=
  (h k m h2 (by omega)).2 (by unfold labI; rw [if_neg (by omega), if_neg (by omega)]; omega)
theorem labI_last {n : Nat} {d : Array α} (h : Lab tot lo n (labI n) d) : Lab tot lo n (labM 40 20 0) d := by
  refine h.congr (fun i j h1 h2 => ?_)
  unfold labI labM
  rw [if_neg (by omega), if_neg (by omega), if_pos (by omega), if_pos (by omega)]
  omega
theorem labM_step {n a b B : Nat} {d d' : Array α} (h : Lab tot lo n (labM (2 * B) B a) d) (hB : B = 20 ∨ B = 40 ∨ B = 80) (ha : a % (2 * B) = 0) (hab : a ≤ b) (hb : b ≤ n) (hb2 : b ≤ a + 2 * B) (hbn : b = a + 2 * B ∨ b = n) (hn : n ≤ d.size) (h160 : n ≤ 160)
    (p : PermIn a b d d') (s : SortedIn tot a b d') : Lab tot lo n (labM (2 * B) B b) d' := by
  rcases hB with rfl | rfl | rfl
  all_goals
    refine h.step hb hn p s (fun i j h1 h2 h3 => ?_) (fun i j h1 h2 h3 => ?_) (fun i j h1 h2 h3 => ?_)
    · unfold labM; rw [if_pos (by omega), if_pos (by omega)]; omega
    · unfold labM
      repeat' split
      all_goals omega
    · unfold labM
      repeat' split
      all_goals omega
theorem labM_halves {n a b B : Nat} {d : Array α} (h : Lab tot lo n (labM (2 * B) B a) d) (hB : B = 20 ∨ B = 40 ∨ B = 80) (ha : a % (2 * B) = 0) (hm : a + B ≤ b) (hb : b ≤ n) (hb2 : b ≤ a + 2 * B) (h160 : n ≤ 160) : Halves tot lo a (a + B) b d := by
  rcases hB with rfl | rfl | rfl
  all_goals
    refine h.halves hb (fun i j h1 h2 h3 => ?_) (fun i j h1 h2 h3 => ?_) (fun i j h1 h2 h3 h4 => ?_) hm
    all_goals
      unfold labM
      rw [if_neg (by omega), if_neg (by omega)]
      omega
/-- the row of blocks is through: the next size -/
theorem labM_next {n a B : Nat} {d : Array α} (h : Lab tot lo n (labM (2 * B) B a) d) (hB : B = 20 ∨ B = 40 ∨ B = 80) (ha : a % (2 * B) = 0) (hn : n ≤ a + B) (h160 : n ≤ 160) : Lab tot lo n (labM (2 * (2 * B)) (2 * B) 0) d := by
  rcases hB with rfl | rfl | rfl
  all_goals
    refine h.congr (fun i j h1 h2 => ?_)
    unfold labM
    repeat' split
    all_goals omega
theorem labM_whole {n c B : Nat} {d : Array α} (h : Lab tot lo n (labM (2 * B) B n) d) (hB : B = 20 ∨ B = 40 ∨ B = 80) (hc : c % (2 * B) = 0) (hn1 : n < c + 2 * B) (hcn : c ≤ n) (h160 : n ≤ 160) : Lab tot lo n (labM (2 * (2 * B)) (2 * B) 0) d := by
  rcases hB with rfl | rfl | rfl
  all_goals
    refine h.congr (fun i j h1 h2 => ?_)
    unfold labM
    repeat' split
    all_goals omega
/-- one block: the row is sorted -/
theorem labM_sorted {n B : Nat} {d : Array α} (h : Lab tot lo n (labM (2 * B) B 0) d) (hn : n ≤ B) (hB : 0 < B) : SortedIn tot 0 n d := fun i j _ h1 h2 =>
  (h i j h1 h2).1 (by unfold labM; rw [if_neg (by omega), if_neg (by omega), Nat.div_eq_of_lt (by omega), Nat.div_eq_of_lt (by omega)])
end
end Go.Proofs.YtalnocdgmcchaaaDoor
