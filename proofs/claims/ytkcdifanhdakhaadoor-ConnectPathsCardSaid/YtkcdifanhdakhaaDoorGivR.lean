/- A range over a function whose iterator hands out memory of its own: the law, with what the iterator tells of each element in the world of the round. -/
import Derived.RangeFuncNested
import Derived.RangeFuncBound
import Derived.RangeFuncWrites
import Derived.RangeFuncCalls
namespace Go.Proofs.YtkcdifanhdakhaaDoor
open Go.RowKit
set_option linter.unusedSimpArgs false
set_option linter.unusedVariables false

/-- as the kit's contract of an iterator, but each round may lean on 'Gv x W': what the iterator has laid for x -/
def SeqGv {α : Type} (F : Fence) (n : Nat) (P : Program) (g : Nat) (lb : Array Value) (encs : α → Array Value) (Kp : World → World → Prop) (Gv : α → World → Prop) (S Sp : List α → Prop) (w : World) : Prop :=
  ∀ (l : Nat) (J Jx : List α → World → Prop) (W : World), Below w.heap.size w W → AbidesFrom W.heap.size J → AbidesFrom W.heap.size Jx →
    (∀ pre x W1, J pre W1 → Gv x W1 → YieldAt F (n - 1) P l (encs x) W1 fun e W' =>
      (e = .returned (.bool true) ∧ J (pre ++ [x]) W' ∧ Kp W1 W') ∨ (e = .returned (.bool false) ∧ Jx (pre ++ [x]) W')) →
    J [] W →
    CallsIn F n P g (#[.func (.yield l) #[] #[]] ++ lb) W fun e W' => (∃ v, e = .returned v) ∧ ((∃ xs, S xs ∧ J xs W') ∨ (∃ pre, Sp pre ∧ Jx pre W'))

/-- how the round's body may be left -/
def gvPost {α : Type} (B : Nat) (Kp : World → World → Prop) (I Ix : List α → World → Prop) (xs : List α) (W : World) : Exit → Act → World → Prop
  | .normal, _, W' => KeepsFrom B W W' ∧ Kp W W' ∧ I xs W'
  | .ret, _, W' => KeepsFrom B W W' ∧ Ix xs W'
  | _, _, _ => False

variable {F : Fence} {n : Nat} {P : Program}
theorem range_given {α : Type} {g : Operand} {ps : Array Tmp} {assign body : Code} {Q : Exit → Act → World → Prop} {a : Act} {w : World}
    (hro : F.round = none) (h1 : 1 ≤ n) {gf : Nat} {lb : Array Value} (hg : a.eval g = .func (.func gf) #[] lb) (hFg : F.fn gf) (eg : ∀ args w, (callFunc gf args).run P w = .ok (.enter gf args) w)
    {encs : α → Array Value} {Kp : World → World → Prop} {Gv : α → World → Prop} {S Sp : List α → Prop} {w0 : World} (hseq : SeqGv F (n - 1) P gf lb encs Kp Gv S Sp w0)
    (hKt : ∀ {A B C : World}, Kp A B → Kp B C → Kp A C)
    (hKb : ∀ (W : World) (l : Nat) (o o' : Obj), w.heap.size ≤ l → W.heap[l]? = some o → o.isCells = false → o.isWalk = false → Kp W (W.putObj l o'))
    (hGb : ∀ (x : α) (W : World) (l : Nat) (o o' : Obj), Gv x W → W.heap[l]? = some o → o.isCells = false → Gv x (W.putObj l o'))
    (hb0 : Below w0.heap.size w0 w) (hps : ∀ x, (encs x).size = ps.size)
    (I Ix : List α → World → Prop) (hI : OwnFrom w.heap.size I) (hIx : OwnFrom w.heap.size Ix) (h0 : I [] w) (a₁ : α → Act)
    (hassign : ∀ (l : Nat) (x : α) (W : World) (K : Act → World → Prop), K (a₁ x) W →
      assign.wpIn (F.inRound l) (n - 1 - 1) P (Exit.then K (fun _ _ _ => False)) { tmps := (ps.zip (encs x)).foldl (fun t (p, v) => t.setIfInBounds p v) a.tmps, defers := [] } W)
    (hbody : ∀ (l : Nat) (pre : List α) (x : α) (W : World), I pre W → Gv x W → body.wpIn (F.inRound l) (n - 1 - 1) P (gvPost w.heap.size Kp I Ix (pre ++ [x]) W) (a₁ x) W)
    (hdone : ∀ (D : Nat) (xs : List α) (W : World), w.heap.size ≤ D → S xs → I xs W → W.heap[D]? = some (.deferred (some [])) → Q .normal { a with defers := { target := .collected D, args := #[] } :: a.defers } W)
    (hstop : ∀ (D : Nat) (pre : List α) (W : World), w.heap.size ≤ D → Sp pre → Ix pre W → W.heap[D]? = some (.deferred (some [])) → Code.ret.wpIn F n P Q { a with defers := { target := .collected D, args := #[] } :: a.defers } W) :
    (Code.rangeFunc g ps assign body).wpIn F n P Q a w := by
  refine wpIn_rangeFunc fun fn hfn => ?_
  rw [hro]
  -- the record in its three states, and the world in which the iterator is called
  let rec_ (s : LoopState) (p : Option Code) : Loop := { state := s, pending := p, fn, tmps := a.tmps, params := ps, assign, body, defers := w.heap.size }
  let D := w.heap.size
  let L := w.heap.size + 1
  let Rdy (W : World) : Prop := W.heap[L]? = some (.loop (rec_ .ready none)) ∧ W.heap[D]? = some (.deferred (some []))
  let Gone (W : World) : Prop := W.heap[L]? = some (.loop (rec_ .done (some .ret))) ∧ W.heap[D]? = some (.deferred (some []))
  obtain ⟨V, hV⟩ : ∃ V, V = (w.alloc (.deferred (some []))).alloc (.loop (rec_ .ready none)) := ⟨_, rfl⟩
  have vR : Rdy V := by
    rw [hV]
    refine ⟨?_, (Below.heap_alloc _ _ _ (by simp [D])).trans (World.alloc_heap_new w _)⟩
    have h := World.alloc_heap_new (w.alloc (.deferred (some []))) (.loop (rec_ .ready none))
    rwa [World.size_alloc] at h
  have vI : I [] V := by rw [hV]; exact hI.alloc _ (hI.alloc _ h0)
  have vB : Below w0.heap.size w0 V := by rw [hV]; exact hb0.trans ((((Below.refl _ w).alloc (Nat.le_refl _) _).alloc (by simp) _).mono hb0.size)
  have vS : w.heap.size ≤ V.heap.size := by rw [hV]; simp; omega
  have past : ∀ {A : World} {row : Option Nat}, (∀ r, row = some r → V.heap.size ≤ r ∧ ∃ o : Obj, A.heap[r]? = some o ∧ o.isWalk = true) → (∀ r, row = some r → w.heap.size ≤ r ∧ ∃ o : Obj, A.heap[r]? = some o ∧ o.isCells = false) :=
    fun hr r e => by obtain ⟨q1, o, q2, q3⟩ := hr r e; exact ⟨Nat.le_trans vS q1, o, q2, Obj.not_cells_of_walk q3⟩
  have still : ∀ {A C : World} {row : Option Nat} {k : Nat} {o : Obj}, A.grownBy C row → (∀ r, row = some r → V.heap.size ≤ r ∧ ∃ o : Obj, A.heap[r]? = some o ∧ o.isWalk = true) → A.heap[k]? = some o → o.isWalk = false → C.heap[k]? = some o :=
    fun hg' hr hk ho => (grownBy_keeps hg' (fun r e => (hr r e).2) hk ho).trans hk
  refine ⟨L, [{ target := .collected D, args := #[] }], V, { target := .fn (.func gf) lb, args := #[.func (.yield L) #[] #[]] }, V, gf, #[.func (.yield L) #[] #[]] ++ lb, V, ?_, ?_, ?_, ?_, fun _ => h1, ?_⟩
  · rw [hV]; exact run_enterLoop_outer _ _ _ _ _
  · simp only [resolve, hg]
    simp [go_sem]
  · intro f' hf'
    simp [Target.leads] at hf'
    subst hf'
    exact hFg
  · simp [invoke, go_sem, eg]
  refine (hseq L (fun pre W => I pre W ∧ Rdy W) (fun pre W => Ix pre W ∧ Gone W) V vB
    (fun s A C row hs hg' hr => ⟨hI s A C row hs.1 hg' (past hr), still hg' hr hs.2.1 rfl, still hg' hr hs.2.2 rfl⟩)
    (fun s A C row hs hg' hr => ⟨hIx s A C row hs.1 hg' (past hr), still hg' hr hs.2.1 rfl, still hg' hr hs.2.2 rfl⟩) ?_ ⟨vI, vR⟩).mono ?_
  · rintro pre x W ⟨hi, hl, hk⟩ hgv
    have hy := run_yield (P := P) (args := encs x) hl (hps x)
    refine ⟨fn, _, assign, body, hy, roundIn_of_wpIn hfn (hassign _ x W _ ⟨_, run_beginRound hl rfl, ?_⟩)⟩
    have hlt : L < W.heap.size := (Array.getElem?_eq_some_iff.1 hl).1
    obtain ⟨X, hX⟩ : ∃ X, X = W.putObj L (.loop { rec_ .ready none with state := .busy }) := ⟨_, rfl⟩
    have xL : X.heap[L]? = some (.loop { rec_ .ready none with state := .busy }) := by rw [hX]; exact World.putObj_heap_same hlt
    have xD : X.heap[D]? = some (.deferred (some [])) := by rw [hX]; exact (World.putObj_heap_other (by simp [D, L])).trans hk
    have xK : Kp W X := by rw [hX]; exact hKb _ _ _ _ (by simp [L]) hl rfl rfl
    have xI : I pre X := by rw [hX]; exact hI.putObj _ hi (by simp [L]) hl rfl
    have xG : Gv x X := by rw [hX]; exact hGb x _ _ _ _ hgv hl rfl
    show body.wpIn _ _ _ _ _ (W.putObj L (.loop { rec_ .ready none with state := .busy }))
    rw [← hX]
    refine wpIn_mono (hbody _ pre x X xI xG) ?_
    have fin : ∀ (jump : Option Code) (Y : World), KeepsFrom w.heap.size X Y → Y.heap[L]? = some (.loop { rec_ .ready none with state := .busy }) ∧
        (Instr.endRound L jump).run P Y = .ok (.bool jump.isNone) (Y.putObj L (.loop (rec_ (if jump.isNone then .ready else .done) jump))) ∧
        (Y.putObj L (.loop (rec_ (if jump.isNone then .ready else .done) jump))).heap[L]? = some (.loop (rec_ (if jump.isNone then .ready else .done) jump)) ∧
        (Y.putObj L (.loop (rec_ (if jump.isNone then .ready else .done) jump))).heap[D]? = some (.deferred (some [])) := fun jump Y hY => by
      have yL := hY.same _ _ (by simp [L]) xL rfl
      exact ⟨yL, run_endRound (P := P) jump yL, World.putObj_heap_same (Array.getElem?_eq_some_iff.1 yL).1, (World.putObj_heap_other (by simp [D, L])).trans (hY.same _ _ (Nat.le_refl _) xD rfl)⟩
    intro e a3 Y hp
    match e, hp with
    | .normal, ⟨q1, q2, q3⟩ =>
      obtain ⟨yL, yr, z1, z2⟩ := fin none Y q1
      exact ⟨_, _, yr, .inl ⟨rfl, ⟨hI.putObj _ q3 (by simp [L]) yL rfl, z1, z2⟩, hKt (hKt xK q2) (hKb _ _ _ _ (by simp [L]) yL rfl rfl)⟩⟩
    | .ret, ⟨q1, q2⟩ =>
      obtain ⟨yL, yr, z1, z2⟩ := fin (some .ret) Y q1
      exact ⟨_, _, yr, .inr ⟨rfl, hIx.putObj _ q2 (by simp [L]) yL rfl, z1, z2⟩⟩
  · rintro e W ⟨⟨v, rfl⟩, (⟨xs, hS, hi, hl, hk⟩ | ⟨pre, hSp, hi, hl, hk⟩)⟩
    · exact ⟨none, _, run_endLoop (P := P) hl (by simp [rec_]), hdone D xs _ (Nat.le_refl _) hS (hI.putObj _ hi (by simp [L]) hl rfl) ((World.putObj_heap_other (by simp [D, L])).trans hk)⟩
    · exact ⟨some .ret, _, run_endLoop (P := P) hl (by simp [rec_]), hstop D pre _ (Nat.le_refl _) hSp (hIx.putObj _ hi (by simp [L]) hl rfl) ((World.putObj_heap_other (by simp [D, L])).trans hk)⟩

end Go.Proofs.YtkcdifanhdakhaaDoor
