/- Words and walks that the laws below ask: StkN5, FrameAc, ClosYB, StkN6. -/
import Derived.Test.YtjmahmeionakaaaGreatDoorPk19
import Derived.Test.YtjmahmeionakaaaGreatDoorPk20
/- The law's calls: the equipment, the legs of a call, Do. -/
namespace Go.Proofs.YtjmahmeionakaaaGreatDoor
open Go.RowKit Go.Shelf Go.Maps Go.MapKept
set_option linter.unusedSimpArgs false
set_option linter.unusedVariables false

/-- a call -/
structure Ac where
  kind : Int
  leg : Int
  more : Int
  equ : Int
  cls : Int
  n : Int
abbrev actT : TypeId := 37
def encA (a : Ac) : List Value := [.int .u8 a.kind, .int .u8 a.leg, .int .u8 a.more, .int .u8 a.equ, .int .u8 a.cls, .int .i8 a.n]
abbrev aggA (a : Ac) : Value := .agg #[.int .u8 a.kind, .int .u8 a.leg, .int .u8 a.more, .int .u8 a.equ, .int .u8 a.cls, .int .i8 a.n]
structure OkA (a : Ac) : Prop where
  kind : 0 ≤ a.kind ∧ a.kind ≤ 255
  leg : 0 ≤ a.leg ∧ a.leg ≤ 255
  more : 0 ≤ a.more ∧ a.more ≤ 255
  equ : 0 ≤ a.equ ∧ a.equ ≤ 255
  cls : 0 ≤ a.cls ∧ a.cls ≤ 255
  n : -128 ≤ a.n ∧ a.n ≤ 127
def equQ (l : List Cf) (k : Int) : ByteArray := if 200 ≤ k ∨ l = [] then ⟨#[88, 88, 88]⟩ else ((l[(k % (l.length : Int)).toNat]?).map Cf.equip).getD noB
theorem equQ_size {l : List Cf} (h : ∀ f ∈ l, f.equip.size ≤ maxLen) (k : Int) : (equQ l k).size ≤ maxLen := by
  have h3 : 3 ≤ maxLen := by unfold maxLen; omega
  unfold equQ
  split
  · exact h3
  · cases e : l[(k % (l.length : Int)).toNat]? with
    | none => exact Nat.zero_le _
    | some f => exact h f (List.mem_of_getElem? e)
set_option maxRecDepth 100000 in
set_option maxHeartbeats 4000000 in
theorem equip15_any (A : Option Addr) (c : Nat) (l : List Cf) (k : Int) (w : World) (hv : CfL w (.slice A l.length c) l) (hn : l.length ≤ 100) (hk : 0 ≤ k ∧ k ≤ 255) : Calls Tryz.prog 27 #[.slice A l.length c, .int .u8 k] w fun e w' => e = .returned (.string (equQ l k)) ∧ w' = w := by
  have w1 : IntKind.i64.wrap k = k := IntWalk.i64_in _ (by omega)
  unfold equQ
  by_cases h1 : 200 ≤ k
  · rw [if_pos (.inl h1)]
    go_enter Tryz.func27, Tryz.ntmps27
    go_wp2
    go_ret
    exact ⟨rfl, rfl⟩
  · by_cases h2 : l = []
    · rw [if_pos (.inr h2)]
      subst h2
      clear hv
      have i0 : ((List.length ([] : List Cf) : Int) == 0) = true := rfl
      go_enter Tryz.func27, Tryz.ntmps27
      go_wp2
      go_ret
      exact ⟨rfl, rfl⟩
    · rw [if_neg (by rintro (h | h); exact h1 h; exact h2 h)]
      have hp : 0 < l.length := List.length_pos_iff.2 h2
      have e1 := Int.emod_nonneg k (show (l.length : Int) ≠ 0 by omega)
      have e2 := Int.emod_lt_of_pos k (show (0 : Int) < (l.length : Int) by omega)
      obtain ⟨j, hj⟩ : ∃ j : Nat, k % (l.length : Int) = (j : Int) := ⟨(k % (l.length : Int)).toNat, by omega⟩
      have hjl : j < l.length := by omega
      have hm : k.tmod (l.length : Int) = (j : Int) := by rw [Int.tmod_eq_emod_of_nonneg hk.1]; exact hj
      obtain ⟨f, hf⟩ : ∃ f, l[j]? = some f := ⟨_, List.getElem?_eq_getElem hjl⟩
      have HR : Hid (((l[(k % (l.length : Int)).toNat]?).map Cf.equip).getD noB = f.equip) := Lib.hid (by rw [hj, Int.toNat_natCast, hf]; rfl)
      rw [HR.out]
      obtain ⟨b, o, rfl, _, hc⟩ := row_get hv.1 hf
      have c0 := hc 0 _ rfl
      rw [Nat.add_zero] at c0
      have i0 : ((l.length : Int) == 0) = false := by rw [beq_eq_false_iff_ne]; omega
      have i1 : (0 : Int) ≤ (j : Int) := by omega
      have i2 : (j : Int) < (l.length : Int) := by omega
      have w2 : IntKind.i64.wrap (j : Int) = (j : Int) := IntWalk.i64_in _ (by omega)
      clear hc hf HR e1 e2 hj hv h2
      go_enter Tryz.func27, Tryz.ntmps27
      go_wp2
      go_ret
      exact ⟨rfl, rfl⟩
/-- the legs of a call -/
def idsK (a : Ac) : List Lid := if a.more % 4 = 0 then [idK a.leg, idK (a.more / 4)] else if a.more = 255 then [] else [idK a.leg]
theorem idsK_len (a : Ac) : (idsK a).length ≤ 1000 := by
  unfold idsK
  split
  · show 2 ≤ 1000; omega
  · split
    · show 0 ≤ 1000; omega
    · show 1 ≤ 1000; omega
theorem idsK_ok (a : Ac) : ∀ i ∈ idsK a, OkD i := by
  intro i hi
  unfold idsK at hi
  split at hi
  · simp only [List.mem_cons, List.not_mem_nil, or_false] at hi
    rcases hi with rfl | rfl <;> exact idK_ok _
  · split at hi
    · cases hi
    · simp only [List.mem_cons, List.not_mem_nil, or_false] at hi
      subst hi
      exact idK_ok _
/-- a list of legs that a call has made -/
def NewD (w : World) (is : List Lid) (e : Ending) (w' : World) : Prop := ∃ A cc, e = .returned (.slice A is.length cc) ∧ RowIn (fun b => w.heap.size ≤ b ∧ b < w'.heap.size) 4 encD w' A is
theorem act_cells (w : World) (a : Ac) : ∀ j u, (encA a)[j]? = some u → (w.alloc (.cells #[.int .u8 a.kind, .int .u8 a.leg, .int .u8 a.more, .int .u8 a.equ, .int .u8 a.cls, .int .i8 a.n] actT)).cell? ⟨w.heap.size, j, none⟩ = some u := by
  intro j u hj
  rw [show #[Value.int .u8 a.kind, .int .u8 a.leg, .int .u8 a.more, .int .u8 a.equ, .int .u8 a.cls, .int .i8 a.n] = (encA a).toArray from rfl, cells_new, List.getElem?_toArray]
  exact hj
theorem row_two (w : World) (x y : Lid) : RowIn (fun b => b = w.heap.size) 4 encD (w.alloc (.cells #[.string x.car, .int .i64 x.num, .int .i64 x.day, .string x.frm, .string y.car, .int .i64 y.num, .int .i64 y.day, .string y.frm] lidT)) (some ⟨w.heap.size, 0, none⟩) [x, y] := RowIn.one (sz := 4) (enc := encD) w [x, y] lidT (fun _ => rfl) rfl
theorem row_one (w : World) (x : Lid) : RowIn (fun b => b = w.heap.size) 4 encD (w.alloc (.cells #[.string x.car, .int .i64 x.num, .int .i64 x.day, .string x.frm] lidT)) (some ⟨w.heap.size, 0, none⟩) [x] := RowIn.one (sz := 4) (enc := encD) w [x] lidT (fun _ => rfl) rfl
set_option maxRecDepth 100000 in
set_option maxHeartbeats 8000000 in
theorem ids_any (a : Ac) (ha : OkA a) (w : World) : Calls Tryz.prog 43 #[aggA a] w fun e w' => NewD w (idsK a) e w' ∧ Below w.heap.size w w' := by
  have hb5 := bel_alloc w (.cells #[.int .u8 a.kind, .int .u8 a.leg, .int .u8 a.more, .int .u8 a.equ, .int .u8 a.cls, .int .i8 a.n] actT)
  have q1 := act_cells w a 1 _ rfl
  have q2 := act_cells w a 2 _ rfl
  have hz5 : w.heap.size < (w.alloc (.cells #[.int .u8 a.kind, .int .u8 a.leg, .int .u8 a.more, .int .u8 a.equ, .int .u8 a.cls, .int .i8 a.n] actT)).heap.size := by simp
  have KI := Lib.hid (fun W => id_any a.leg ha.leg W)
  have hq : 0 ≤ a.more / 4 ∧ a.more / 4 ≤ 255 := by have := ha.more; omega
  have KJ := Lib.hid (fun W => id_any (a.more / 4) hq W)
  have hqt : a.more.tdiv 4 = a.more / 4 := Int.tdiv_eq_ediv_of_nonneg ha.more.1
  have hqw : IntKind.u8.wrap (a.more / 4) = a.more / 4 := by unfold IntKind.wrap; simp [IntKind.bits, IntKind.signed]; have := ha.more; omega
  have hrt : a.more.tmod 4 = a.more % 4 := Int.tmod_eq_emod_of_nonneg ha.more.1
  have hrw : IntKind.u8.wrap (a.more % 4) = a.more % 4 := by unfold IntKind.wrap; simp [IntKind.bits, IntKind.signed]; have := ha.more; omega
  have HB5 := Lib.hid hb5
  clear hb5
  unfold NewD idsK
  by_cases h0 : a.more % 4 = 0
  · rw [if_pos h0]
    have h0b : ((a.more % 4) == 0) = true := by rw [h0]; rfl
    have H0 := Lib.hid h0
    clear h0
    go_enter Tryz.func43, Tryz.ntmps43
    go_upto_region 2 with fail
    generalize w.alloc (.cells #[.int .u8 a.kind, .int .u8 a.leg, .int .u8 a.more, .int .u8 a.equ, .int .u8 a.cls, .int .i8 a.n] actT) = w5 at *
    have f1 := sw_cell q1
    have f2 := sw_cell q2
    clear q1 q2
    have hS : (SW w5) _ := (Below.refl _ _).drew
    refine wp_region_held_drew (S := SW w5) (by kernel_rfl) hS (fun _ => ?_)
    refine wpAnyH_take (i := 0) (v := ?vE0) rfl (by kernel_rfl) (by kernel_rfl) (by kernel_rfl) (fun _ _ _ h => h) (Or.inl ⟨by rfl, ?hyE0⟩) hS ?restE0
    case hyE0 =>
      intro w hSw
      first | (go_simp; done) | (go_simp; with_reducible rfl)
    try simp only [Act.put, List.setIfInBounds_toArray, List.set_cons_zero, List.set_cons_succ]
    refine wpAnyH_take (i := 1) (v := ?vE1) rfl (by kernel_rfl) (by kernel_rfl) (by kernel_rfl) (fun _ _ _ h => h) (Or.inl ⟨by rfl, ?hyE1⟩) hS ?restE1
    case hyE1 =>
      intro w hSw
      have k0 := f1 w hSw; have k1 := f2 w hSw
      first | (go_simp; done) | (go_simp; with_reducible rfl)
    try simp only [Act.put, List.setIfInBounds_toArray, List.set_cons_zero, List.set_cons_succ]
    refine wpAnyH_take (i := 3) (v := ?vE3) rfl (by kernel_rfl) (by kernel_rfl) (by kernel_rfl) (fun _ _ _ h => h) (Or.inl ⟨by rfl, ?hyE3⟩) hS ?restE3
    case hyE3 =>
      intro w hSw
      first | (go_simp; done) | (go_simp; with_reducible rfl)
    try simp only [Act.put, List.setIfInBounds_toArray, List.set_cons_zero, List.set_cons_succ]
    refine wpAnyH_take (i := 4) (v := ?vE4) rfl (by kernel_rfl) (by kernel_rfl) (by kernel_rfl) (fun _ _ _ h => h) (Or.inl ⟨by rfl, ?hyE4⟩) hS ?restE4
    case hyE4 =>
      intro w hSw
      have k0 := f1 w hSw; have k1 := f2 w hSw
      first | (go_simp; done) | (go_simp; with_reducible rfl)
    try simp only [Act.put, List.setIfInBounds_toArray, List.set_cons_zero, List.set_cons_succ]
    refine wpAnyH_take (i := 5) (v := ?vE5) rfl (by kernel_rfl) (by kernel_rfl) (by kernel_rfl) (fun _ _ _ h => h) (Or.inl ⟨by rfl, ?hyE5⟩) hS ?restE5
    case hyE5 =>
      intro w hSw
      first | (go_simp; done) | (go_simp; with_reducible rfl)
    try simp only [Act.put, List.setIfInBounds_toArray, List.set_cons_zero, List.set_cons_succ]
    refine wpAnyH_ready (rs := [2]) (by kernel_rfl) (by simp) ?_
    refine AllReadyH.cons rfl (fun K hK => ?_) AllReadyH.nil
    go_simp
    go_wp2_with (go_at_call 18; (with_reducible refine (KI.out _).mono ?_); rintro e w6 ⟨rfl, hb6⟩)
    have hS : SW w5 w6 := Below.trans hS (Below.mono hb6 hS.size)
    clear hb6
    refine hK.out _ _ hS (fun _ => ?_)
    clear hK K
    refine wpAnyH_ready (rs := [6]) (by kernel_rfl) (by simp) ?_
    refine AllReadyH.cons rfl (fun K hK => ?_) AllReadyH.nil
    go_simp
    go_wp2_with (go_at_call 18; (with_reducible refine (KJ.out _).mono ?_); rintro e w7 ⟨rfl, hb7⟩)
    have hS : SW w5 w7 := Below.trans hS (Below.mono hb7 hS.size)
    have HS7 := Lib.hid hS
    clear hb7
    refine hK.out _ _ hS (fun _ => ?_)
    clear hK K
    refine wpAnyH_ready (rs := [7]) (by kernel_rfl) (by simp) ?_
    refine AllReadyH.cons rfl (fun K hK => ?_) AllReadyH.nil
    go_simp
    have hrow := row_two w7 (idK a.leg) (idK (a.more / 4))
    have hS : SW w5 (w7.alloc (.cells #[.string (idK a.leg).car, .int .i64 (idK a.leg).num, .int .i64 (idK a.leg).day, .string (idK a.leg).frm, .string (idK (a.more / 4)).car, .int .i64 (idK (a.more / 4)).num, .int .i64 (idK (a.more / 4)).day, .string (idK (a.more / 4)).frm] lidT)) := Below.trans hS (Below.mono (bel_alloc _ _) hS.size)
    refine hK.out _ _ hS (fun _ => ?_)
    clear hK K
    refine wpAnyH_take (i := 8) (v := ?vE8) rfl (by kernel_rfl) (by kernel_rfl) (by kernel_rfl) (fun _ _ _ h => h) (Or.inl ⟨by rfl, ?hyE8⟩) hS ?restE8
    case hyE8 =>
      intro w hSw
      first | (go_simp; done) | (go_simp; with_reducible rfl)
    try simp only [Act.put, List.setIfInBounds_toArray, List.set_cons_zero, List.set_cons_succ]
    refine wpAnyH_done (by kernel_rfl) ?_ _
    try simp only [List.getElem_toArray, List.getElem_cons_succ, List.getElem_cons_zero, List.set_cons_zero, List.set_cons_succ]
    go_wp2
    go_ret
    have hle : w5.heap.size ≤ w7.heap.size := HS7.out.size
    exact ⟨⟨_, _, rfl, hrow.imp (fun b e => ⟨by omega, by rw [e]; simp⟩)⟩, HB5.out.trans (Below.mono hS HB5.out.size)⟩
  · rw [if_neg h0]
    have h0b : ((a.more % 4) == 0) = false := by rw [beq_eq_false_iff_ne]; exact h0
    have H0 := Lib.hid h0
    clear h0
    by_cases h1 : a.more = 255
    · rw [if_pos h1]
      have h1b : (a.more == 255) = true := by rw [h1]; rfl
      have H1 := Lib.hid h1
      clear h1
      go_enter Tryz.func43, Tryz.ntmps43
      go_wp2
      go_ret
      exact ⟨⟨none, 0, rfl, .inl rfl⟩, HB5.out⟩
    · rw [if_neg h1]
      have h1b : (a.more == 255) = false := by rw [beq_eq_false_iff_ne]; exact h1
      have H1 := Lib.hid h1
      clear h1
      go_enter Tryz.func43, Tryz.ntmps43
      go_upto_region 5 with fail
      generalize w.alloc (.cells #[.int .u8 a.kind, .int .u8 a.leg, .int .u8 a.more, .int .u8 a.equ, .int .u8 a.cls, .int .i8 a.n] actT) = w5 at *
      go_wp2_with (go_at_call 18; (with_reducible refine (KI.out _).mono ?_); rintro e w6 ⟨rfl, hb6⟩)
      go_ret
      have hle := hb6.size
      exact ⟨⟨_, _, rfl, (row_one w6 (idK a.leg)).imp (fun b e => ⟨by omega, by rw [e]; simp⟩)⟩, HB5.out.trans ((hb6.trans ((bel_alloc w6 _).mono hb6.size)).mono HB5.out.size)⟩
/-- what a call answers, and what it changes -/
def doE (cs l : List Cf) (g : Stk) (a : Ac) : Int :=
  if a.kind % 7 = 0 then opnE cs g (idK a.leg) (equQ l a.equ) else if a.kind % 7 = 1 then cloE g (idK a.leg) else if a.kind % 7 = 5 then canP g (idsK a) (clsK a.cls) a.n
  else if a.kind % 7 = 6 then rszE cs g (idK a.leg) (equQ l a.equ) else selP g (idsK a) (clsK a.cls) a.n
def doG (cs l : List Cf) (g : Stk) (a : Ac) : Stk :=
  if a.kind % 7 = 0 then opnG cs g (idK a.leg) (equQ l a.equ) else if a.kind % 7 = 1 then cloG g (idK a.leg) else if a.kind % 7 = 5 then canG g (idsK a) (clsK a.cls) a.n
  else if a.kind % 7 = 6 then rszG cs g (idK a.leg) (equQ l a.equ) else selG g (idsK a) (clsK a.cls) a.n
theorem StkAt.mono {w : World} {R : Nat → Prop} {o : Own'} {B n n' : Nat} {cs : List Cf} {g : Stk} (h : StkAt w R o B n cs g) (hn : n ≤ n') : StkAt w R o B n' cs g := by
  obtain ⟨⟨mc, ml, nc, h1, h2, h3, h4, h5, h6, hh, ⟨es, cl, k1, k2, k3, k4⟩, k5⟩, r1, r2, r3, r4, r5, r6⟩ := h
  exact ⟨⟨mc, ml, nc, h1, h2, h3, h4, h5, h6, hh, ⟨es, cl, k1, k2, Nat.le_trans k3 hn, k4⟩, k5⟩, r1, r2, r3, r4, r5, r6⟩
theorem SesE.monoN {N : Nat} {R F : Nat → Prop} {B n n' : Nat} {cs : List Cf} {K : Int} {W : World} {g : Stk} (h : SesE N R F B n cs K W g) (hn : n ≤ n') : SesE N R F B n' cs K W g := by
  obtain ⟨o, h⟩ := h
  exact ⟨o, { h with stk := h.stk.mono hn }⟩
theorem SesE.hN {N : Nat} {R F : Nat → Prop} {B n : Nat} {cs : List Cf} {K : Int} {W : World} {g : Stk} (h : SesE N R F B n cs K W g) : N ≤ W.heap.size := by
  obtain ⟨o, h⟩ := h
  exact h.hN
theorem SesE.good {N : Nat} {R F : Nat → Prop} {B n : Nat} {cs : List Cf} {K : Int} {W : World} {g : Stk} (h : SesE N R F B n cs K W g) : OkG K cs g ∧ ∀ f ∈ cs, GoodF f := by
  obtain ⟨o, h⟩ := h
  exact ⟨h.ok, fun f hf => (h.stk.cfs f hf).2⟩
theorem SesE.drew {N : Nat} {R F : Nat → Prop} {B n : Nat} {cs : List Cf} {K : Int} {W : World} {g : Stk} (h : SesE N R F B n cs K W g) : SesE N R F B n cs K W.drew g := h.grow (Below.refl _ _).drew
theorem Lv.less {N : Nat} {F F' : Nat → Prop} {w w' : World} (h : Lv N F' w w') (hF : ∀ k, F k → F' k) : Lv N F w w' := ⟨h.os, h.tape, h.output, h.size, fun k hk hn => h.block k hk (fun hx => hn ⟨hx.1, fun hf => hx.2 (hF k hf)⟩)⟩
section
variable {N : Nat} {R F : Nat → Prop} {B n : Nat} {cs : List Cf} {K : Int} {W1 W2 W3 : World} {g : Stk}
/-- Sell and Cancel at a list that was made just before -/
theorem ses_sellN (h : SesE N R F B n cs K W1 g) (hK : 0 ≤ K ∧ K ≤ 1000000000000) {m : Int} (hm : -1000000 ≤ m ∧ m ≤ 1000000) {is : List Lid} (hl : is.length ≤ 1000) (hok : ∀ i ∈ is, OkD i) (hb : Below W1.heap.size W1 W2) {A : Option Addr} {cc : Nat} (hr : RowIn (fun b => W1.heap.size ≤ b ∧ b < W2.heap.size) 4 encD W2 A is) (hb3 : Below W2.heap.size W2 W3) (c : ByteArray) : Calls Tryz.prog 23 #[.pointer (some ⟨B, 0, none⟩), .slice A is.length cc, .string c, .int .i64 m] W3 fun e w' => e = .returned (.int .i64 (selP g is c m)) ∧ SesE N R F B n cs (K + max m 0) w' (selG g is c m) ∧ Lv N F W3 w' := by
  refine (ses_sell ((h.more hb).grow hb3) hK hm hl hok ((hr.more hb3).imp (fun b hb => .inl (.inr hb))) c).mono ?_
  rintro e w' ⟨rfl, h1, h2⟩
  exact ⟨rfl, h1.less (fun k hk => .inl hk), h2.less (fun k hk => .inl hk)⟩
theorem ses_cancelN (h : SesE N R F B n cs K W1 g) (hK : 0 ≤ K ∧ K ≤ 1000000000000) {m : Int} (hm : -1000000 ≤ m ∧ m ≤ 1000000) {is : List Lid} (hl : is.length ≤ 1000) (hok : ∀ i ∈ is, OkD i) (hb : Below W1.heap.size W1 W2) {A : Option Addr} {cc : Nat} (hr : RowIn (fun b => W1.heap.size ≤ b ∧ b < W2.heap.size) 4 encD W2 A is) (hb3 : Below W2.heap.size W2 W3) (c : ByteArray) : Calls Tryz.prog 37 #[.pointer (some ⟨B, 0, none⟩), .slice A is.length cc, .string c, .int .i64 m] W3 fun e w' => e = .returned (.int .i64 (canP g is c m)) ∧ SesE N R F B n cs K w' (canG g is c m) ∧ Lv N F W3 w' := by
  refine (ses_cancel ((h.more hb).grow hb3) hK hm hl hok ((hr.more hb3).imp (fun b hb => .inl (.inr hb))) c).mono ?_
  rintro e w' ⟨rfl, h1, h2⟩
  exact ⟨rfl, h1.less (fun k hk => .inl hk), h2.less (fun k hk => .inl hk)⟩
end
set_option maxRecDepth 100000 in
set_option maxHeartbeats 16000000 in
theorem do_any {N : Nat} {R F : Nat → Prop} {B n : Nat} {cs : List Cf} {K : Int} {w : World} {g : Stk} (hS0 : SesE N R F B n cs K w g) (hK : 0 ≤ K ∧ K ≤ 1000000000) (hn : n ≤ 999) {A : Option Addr} {c : Nat} {l : List Cf} (hv : ∀ W, Below N w W → CfL W (.slice A l.length c) l) (hl : l.length ≤ 100) (hlo : ∀ f ∈ l, f.equip.size ≤ maxLen) {a : Ac} (ha : OkA a) :
    Calls Tryz.prog 14 #[.pointer (some ⟨B, 0, none⟩), .slice A l.length c, aggA a] w fun e w' => e = .returned (.int .i64 (doE cs l g a)) ∧ SesE N R F B (n + 1) cs (K + 127) w' (doG cs l g a) ∧ Lv N F w w' := by
  have hb5 := bel_alloc w (.cells #[.int .u8 a.kind, .int .u8 a.leg, .int .u8 a.more, .int .u8 a.equ, .int .u8 a.cls, .int .i8 a.n] actT)
  have q0 := act_cells w a 0 _ rfl
  have q1 := act_cells w a 1 _ rfl
  have q2 := act_cells w a 2 _ rfl
  have q3 := act_cells w a 3 _ rfl
  have q4 := act_cells w a 4 _ rfl
  have q5 := act_cells w a 5 _ rfl
  have hz5 : w.heap.size < (w.alloc (.cells #[.int .u8 a.kind, .int .u8 a.leg, .int .u8 a.more, .int .u8 a.equ, .int .u8 a.cls, .int .i8 a.n] actT)).heap.size := by simp
  obtain ⟨F1, hF1⟩ : ∃ F1 : Nat → Prop, F1 = fun k => F k ∨ (w.heap.size ≤ k ∧ k < (w.alloc (.cells #[.int .u8 a.kind, .int .u8 a.leg, .int .u8 a.more, .int .u8 a.equ, .int .u8 a.cls, .int .i8 a.n] actT)).heap.size) := ⟨_, rfl⟩
  have hSes : SesE N R F1 B n cs K (w.alloc (.cells #[.int .u8 a.kind, .int .u8 a.leg, .int .u8 a.more, .int .u8 a.equ, .int .u8 a.cls, .int .i8 a.n] actT)) g := by rw [hF1]; exact hS0.more hb5
  have hFb : F1 w.heap.size := by rw [hF1]; exact .inr ⟨Nat.le_refl _, hz5⟩
  have hFF : ∀ k, F k → F1 k := fun k hk => by rw [hF1]; exact .inl hk
  have HFF := Lib.hid hFF
  have HL5 : Hid (Lv N F w (w.alloc (.cells #[.int .u8 a.kind, .int .u8 a.leg, .int .u8 a.more, .int .u8 a.equ, .int .u8 a.cls, .int .i8 a.n] actT))) := Lib.hid (Lv.of hb5)
  have KI := Lib.hid (fun W => id_any a.leg ha.leg W)
  have KC := Lib.hid (fun W => class15_any a.cls ha.cls W)
  have KD := Lib.hid (fun W => ids_any a ha W)
  have hN0 := hS0.hN
  have HV : Hid (∀ W, Lv N F1 (w.alloc (.cells #[.int .u8 a.kind, .int .u8 a.leg, .int .u8 a.more, .int .u8 a.equ, .int .u8 a.cls, .int .i8 a.n] actT)) W → CfL W (.slice A l.length c) l) := Lib.hid (fun W h => hv W ((hb5.mono hN0).trans (h.below (Nat.le_trans hN0 hb5.size))))
  have KQ : Hid (∀ W, Lv N F1 (w.alloc (.cells #[.int .u8 a.kind, .int .u8 a.leg, .int .u8 a.more, .int .u8 a.equ, .int .u8 a.cls, .int .i8 a.n] actT)) W → Calls Tryz.prog 27 #[.slice A l.length c, .int .u8 a.equ] W fun e w' => e = .returned (.string (equQ l a.equ)) ∧ w' = W) := Lib.hid (fun W h => equip15_any A c l a.equ W (HV.out W h) hl ha.equ)
  have hsz := equQ_size hlo a.equ
  have w1 : IntKind.i64.wrap a.n = a.n := IntWalk.i64_in _ (by have := ha.n; omega)
  have KO := Lib.hid (fun W (h : SesE N R F1 B n cs K W g) => ses_open h hK.1 (idK_ok a.leg) hsz (by omega))
  have KX := Lib.hid (fun W (h : SesE N R F1 B n cs K W g) => ses_close h (idK_ok a.leg))
  have KR := Lib.hid (fun W (h : SesE N R F1 B n cs K W g) => ses_resize h (by omega) (idK_ok a.leg) hsz)
  have KS := Lib.hid (fun W1 W2 W3 (h : SesE N R F1 B n cs K W1 g) => ses_sellN (W1 := W1) (W2 := W2) (W3 := W3) h ⟨hK.1, by omega⟩ (m := a.n) (by have := ha.n; omega) (idsK_len a) (idsK_ok a))
  have KA := Lib.hid (fun W1 W2 W3 (h : SesE N R F1 B n cs K W1 g) => ses_cancelN (W1 := W1) (W2 := W2) (W3 := W3) h ⟨hK.1, by omega⟩ (m := a.n) (by have := ha.n; omega) (idsK_len a) (idsK_ok a))
  obtain ⟨j, hj, hm, he⟩ := u8_mod ha.kind 7 ⟨by omega, by omega⟩
  have hm : a.kind.tmod 7 = (j : Int) := hm
  have he : a.kind % 7 = (j : Int) := he
  have HN : Hid (a.n ≤ 127) := Lib.hid ha.n.2
  unfold doE doG
  rw [he]
  clear he hv hlo hS0 hF1 hFF hb5 hz5 hN0 ha hl
  generalize equQ l a.equ = eq at *
  generalize idsK a = is at *
  generalize idK a.leg = i0 at *
  generalize clsK a.cls = ck at *
  by_cases j0 : j = 0
  · subst j0
    simp only [show ((0 : Nat) : Int) = 0 from rfl, if_false, if_true]
    have hm : a.kind.tmod 7 = 0 := hm
    go_enter Tryz.func14, Tryz.ntmps14
    go_upto_region 3 with fail
    generalize w.alloc (.cells #[.int .u8 a.kind, .int .u8 a.leg, .int .u8 a.more, .int .u8 a.equ, .int .u8 a.cls, .int .i8 a.n] actT) = w5 at *
    have f0 : ∀ W, Lv N F1 w5 W → _ := fun W h => Lv.cell h q0 (.inl hFb)
    have f1 : ∀ W, Lv N F1 w5 W → _ := fun W h => Lv.cell h q1 (.inl hFb)
    have f2 : ∀ W, Lv N F1 w5 W → _ := fun W h => Lv.cell h q2 (.inl hFb)
    have f3 : ∀ W, Lv N F1 w5 W → _ := fun W h => Lv.cell h q3 (.inl hFb)
    have f4 : ∀ W, Lv N F1 w5 W → _ := fun W h => Lv.cell h q4 (.inl hFb)
    have f5 : ∀ W, Lv N F1 w5 W → _ := fun W h => Lv.cell h q5 (.inl hFb)
    have hSes := SesE.drew hSes
    clear q0 q1 q2 q3 q4 q5
    have hS : (fun W => Lv N F1 w5 W) _ := (Lv.of (Below.refl _ _).drew)
    refine wp_region_held_drew (S := fun W => Lv N F1 w5 W) (by kernel_rfl) hS (fun _ => ?_)
    refine wpAnyH_take (i := 0) (v := ?vA0) rfl (by kernel_rfl) (by kernel_rfl) (by kernel_rfl) (fun _ _ _ h => h) (Or.inl ⟨by rfl, ?hyA0⟩) hS ?restA0
    case hyA0 =>
      intro w hSw
      first | (go_simp; done) | (go_simp; with_reducible rfl)
    try simp only [Act.put, List.setIfInBounds_toArray, List.set_cons_zero, List.set_cons_succ]
    refine wpAnyH_take (i := 1) (v := ?vA1) rfl (by kernel_rfl) (by kernel_rfl) (by kernel_rfl) (fun _ _ _ h => h) (Or.inl ⟨by rfl, ?hyA1⟩) hS ?restA1
    case hyA1 =>
      intro w hSw
      first | (go_simp; done) | (go_simp; with_reducible rfl)
    try simp only [Act.put, List.setIfInBounds_toArray, List.set_cons_zero, List.set_cons_succ]
    refine wpAnyH_take (i := 2) (v := ?vA2) rfl (by kernel_rfl) (by kernel_rfl) (by kernel_rfl) (fun _ _ _ h => h) (Or.inl ⟨by rfl, ?hyA2⟩) hS ?restA2
    case hyA2 =>
      intro w hSw
      have k0 := f0 w hSw; have k1 := f1 w hSw; have k2 := f2 w hSw; have k3 := f3 w hSw; have k4 := f4 w hSw; have k5 := f5 w hSw
      first | (go_simp; done) | (go_simp; with_reducible rfl)
    try simp only [Act.put, List.setIfInBounds_toArray, List.set_cons_zero, List.set_cons_succ]
    refine wpAnyH_take (i := 4) (v := ?vA4) rfl (by kernel_rfl) (by kernel_rfl) (by kernel_rfl) (fun _ _ _ h => h) (Or.inl ⟨by rfl, ?hyA4⟩) hS ?restA4
    case hyA4 =>
      intro w hSw
      first | (go_simp; done) | (go_simp; with_reducible rfl)
    try simp only [Act.put, List.setIfInBounds_toArray, List.set_cons_zero, List.set_cons_succ]
    refine wpAnyH_take (i := 5) (v := ?vA5) rfl (by kernel_rfl) (by kernel_rfl) (by kernel_rfl) (fun _ _ _ h => h) (Or.inl ⟨by rfl, ?hyA5⟩) hS ?restA5
    case hyA5 =>
      intro w hSw
      first | (go_simp; done) | (go_simp; with_reducible rfl)
    try simp only [Act.put, List.setIfInBounds_toArray, List.set_cons_zero, List.set_cons_succ]
    refine wpAnyH_take (i := 6) (v := ?vA6) rfl (by kernel_rfl) (by kernel_rfl) (by kernel_rfl) (fun _ _ _ h => h) (Or.inl ⟨by rfl, ?hyA6⟩) hS ?restA6
    case hyA6 =>
      intro w hSw
      have k0 := f0 w hSw; have k1 := f1 w hSw; have k2 := f2 w hSw; have k3 := f3 w hSw; have k4 := f4 w hSw; have k5 := f5 w hSw
      first | (go_simp; done) | (go_simp; with_reducible rfl)
    try simp only [Act.put, List.setIfInBounds_toArray, List.set_cons_zero, List.set_cons_succ]
    refine wpAnyH_ready (rs := [3]) (by kernel_rfl) (by simp) ?_
    refine AllReadyH.cons rfl (fun K hK => ?_) AllReadyH.nil
    go_simp
    go_wp2_with (go_at_call 18; (with_reducible refine (KI.out _).mono ?_); rintro e w6 ⟨rfl, hb6⟩)
    have hSes := SesE.grow hSes hb6
    have hS : (fun W => Lv N F1 w5 W) w6 := Lv.trans hS (Lv.of hb6)
    clear hb6
    refine hK.out _ _ hS (fun _ => ?_)
    clear hK K
    refine wpAnyH_ready (rs := [7]) (by kernel_rfl) (by simp) ?_
    refine AllReadyH.cons rfl (fun K hK => ?_) AllReadyH.nil
    go_simp
    go_wp2_with (go_at_call 27; (with_reducible refine (KQ.out _ hS).mono ?_); rintro e w7 ⟨rfl, rfl⟩)
    refine hK.out _ _ hS (fun _ => ?_)
    clear hK K
    refine wpAnyH_ready (rs := [8]) (by kernel_rfl) (by simp) ?_
    refine AllReadyH.cons rfl (fun K hK => ?_) AllReadyH.nil
    go_simp
    go_wp2_with (go_at_call 35; (with_reducible refine (KO.out _ hSes).mono ?_); rintro e w8 ⟨rfl, hSes, hl8⟩)
    have hS : (fun W => Lv N F1 w5 W) w8 := Lv.trans hS hl8
    clear hl8
    refine hK.out _ _ hS (fun _ => ?_)
    clear hK K
    refine wpAnyH_take (i := 9) (v := ?vA9) rfl (by kernel_rfl) (by kernel_rfl) (by kernel_rfl) (fun _ _ _ h => h) (Or.inl ⟨by rfl, ?hyA9⟩) hS ?restA9
    case hyA9 =>
      intro w hSw
      first | (go_simp; done) | (go_simp; with_reducible rfl)
    try simp only [Act.put, List.setIfInBounds_toArray, List.set_cons_zero, List.set_cons_succ]
    refine wpAnyH_done (by kernel_rfl) ?_ _
    try simp only [List.getElem_toArray, List.getElem_cons_succ, List.getElem_cons_zero, List.set_cons_zero, List.set_cons_succ]
    go_wp2
    go_ret
    exact ⟨rfl, (hSes.less HFF.out).mono (by omega), HL5.out.trans (hS.less HFF.out)⟩
  by_cases j1 : j = 1
  · subst j1
    simp only [show ((1 : Nat) : Int) = 1 from rfl, show ¬ ((1 : Int) = 0) by decide, if_false, if_true]
    have hm : a.kind.tmod 7 = 1 := hm
    go_enter Tryz.func14, Tryz.ntmps14
    go_upto_region 5 with fail
    generalize w.alloc (.cells #[.int .u8 a.kind, .int .u8 a.leg, .int .u8 a.more, .int .u8 a.equ, .int .u8 a.cls, .int .i8 a.n] actT) = w5 at *
    go_wp2_with (first
      | (go_at_call 18; (with_reducible refine (KI.out _).mono ?_); rintro e w6 ⟨rfl, hb6⟩; have hSes := SesE.grow hSes hb6)
      | (go_at_call 36; (with_reducible refine (KX.out _ hSes).mono ?_); rintro e w7 ⟨rfl, hSes', hl7⟩))
    go_ret
    exact ⟨rfl, ((hSes'.less HFF.out).mono (by omega)).monoN (by omega), HL5.out.trans (((Lv.of hb6).trans hl7).less HFF.out)⟩
  by_cases j5 : j = 5
  · subst j5
    simp only [show ((5 : Nat) : Int) = 5 from rfl, show ¬ ((5 : Int) = 0) by decide, show ¬ ((5 : Int) = 1) by decide, if_false, if_true]
    have hm : a.kind.tmod 7 = 5 := hm
    go_enter Tryz.func14, Tryz.ntmps14
    go_upto_region 7 with fail
    generalize w.alloc (.cells #[.int .u8 a.kind, .int .u8 a.leg, .int .u8 a.more, .int .u8 a.equ, .int .u8 a.cls, .int .i8 a.n] actT) = w5 at *
    have f0 : ∀ W, Lv N F1 w5 W → _ := fun W h => Lv.cell h q0 (.inl hFb)
    have f1 : ∀ W, Lv N F1 w5 W → _ := fun W h => Lv.cell h q1 (.inl hFb)
    have f2 : ∀ W, Lv N F1 w5 W → _ := fun W h => Lv.cell h q2 (.inl hFb)
    have f3 : ∀ W, Lv N F1 w5 W → _ := fun W h => Lv.cell h q3 (.inl hFb)
    have f4 : ∀ W, Lv N F1 w5 W → _ := fun W h => Lv.cell h q4 (.inl hFb)
    have f5 : ∀ W, Lv N F1 w5 W → _ := fun W h => Lv.cell h q5 (.inl hFb)
    have hSes := SesE.drew hSes
    clear q0 q1 q2 q3 q4 q5
    have hS : (fun W => Lv N F1 w5 W) _ := (Lv.of (Below.refl _ _).drew)
    refine wp_region_held_drew (S := fun W => Lv N F1 w5 W) (by kernel_rfl) hS (fun _ => ?_)
    refine wpAnyH_take (i := 0) (v := ?vC0) rfl (by kernel_rfl) (by kernel_rfl) (by kernel_rfl) (fun _ _ _ h => h) (Or.inl ⟨by rfl, ?hyC0⟩) hS ?restC0
    case hyC0 =>
      intro w hSw
      first | (go_simp; done) | (go_simp; with_reducible rfl)
    try simp only [Act.put, List.setIfInBounds_toArray, List.set_cons_zero, List.set_cons_succ]
    refine wpAnyH_take (i := 1) (v := ?vC1) rfl (by kernel_rfl) (by kernel_rfl) (by kernel_rfl) (fun _ _ _ h => h) (Or.inl ⟨by rfl, ?hyC1⟩) hS ?restC1
    case hyC1 =>
      intro w hSw
      have k0 := f0 w hSw; have k1 := f1 w hSw; have k2 := f2 w hSw; have k3 := f3 w hSw; have k4 := f4 w hSw; have k5 := f5 w hSw
      first | (go_simp; done) | (go_simp; with_reducible rfl)
    try simp only [Act.put, List.setIfInBounds_toArray, List.set_cons_zero, List.set_cons_succ]
    refine wpAnyH_take (i := 3) (v := ?vC3) rfl (by kernel_rfl) (by kernel_rfl) (by kernel_rfl) (fun _ _ _ h => h) (Or.inl ⟨by rfl, ?hyC3⟩) hS ?restC3
    case hyC3 =>
      intro w hSw
      first | (go_simp; done) | (go_simp; with_reducible rfl)
    try simp only [Act.put, List.setIfInBounds_toArray, List.set_cons_zero, List.set_cons_succ]
    refine wpAnyH_take (i := 4) (v := ?vC4) rfl (by kernel_rfl) (by kernel_rfl) (by kernel_rfl) (fun _ _ _ h => h) (Or.inl ⟨by rfl, ?hyC4⟩) hS ?restC4
    case hyC4 =>
      intro w hSw
      have k0 := f0 w hSw; have k1 := f1 w hSw; have k2 := f2 w hSw; have k3 := f3 w hSw; have k4 := f4 w hSw; have k5 := f5 w hSw
      first | (go_simp; done) | (go_simp; with_reducible rfl)
    try simp only [Act.put, List.setIfInBounds_toArray, List.set_cons_zero, List.set_cons_succ]
    refine wpAnyH_take (i := 6) (v := ?vC6) rfl (by kernel_rfl) (by kernel_rfl) (by kernel_rfl) (fun _ _ _ h => h) (Or.inl ⟨by rfl, ?hyC6⟩) hS ?restC6
    case hyC6 =>
      intro w hSw
      first | (go_simp; done) | (go_simp; with_reducible rfl)
    try simp only [Act.put, List.setIfInBounds_toArray, List.set_cons_zero, List.set_cons_succ]
    refine wpAnyH_take (i := 7) (v := ?vC7) rfl (by kernel_rfl) (by kernel_rfl) (by kernel_rfl) (fun _ _ _ h => h) (Or.inl ⟨by rfl, ?hyC7⟩) hS ?restC7
    case hyC7 =>
      intro w hSw
      have k0 := f0 w hSw; have k1 := f1 w hSw; have k2 := f2 w hSw; have k3 := f3 w hSw; have k4 := f4 w hSw; have k5 := f5 w hSw
      first | (go_simp; done) | (go_simp; with_reducible rfl)
    try simp only [Act.put, List.setIfInBounds_toArray, List.set_cons_zero, List.set_cons_succ]
    refine wpAnyH_take (i := 8) (v := ?vC8) rfl (by kernel_rfl) (by kernel_rfl) (by kernel_rfl) (fun _ _ _ h => h) (Or.inl ⟨by rfl, ?hyC8⟩) hS ?restC8
    case hyC8 =>
      intro w hSw
      first | (go_simp; done) | (go_simp; with_reducible rfl)
    try simp only [Act.put, List.setIfInBounds_toArray, List.set_cons_zero, List.set_cons_succ]
    refine wpAnyH_ready (rs := [2]) (by kernel_rfl) (by simp) ?_
    refine AllReadyH.cons rfl (fun K hK => ?_) AllReadyH.nil
    go_simp
    have hSes0 := hSes
    go_wp2_with (go_at_call 43; (with_reducible refine (KD.out _).mono ?_); rintro e w6 ⟨⟨Ai, cci, rfl, hri⟩, hb6⟩)
    have hS : (fun W => Lv N F1 w5 W) w6 := Lv.trans hS (Lv.of hb6)
    refine hK.out _ _ hS (fun _ => ?_)
    clear hK K
    refine wpAnyH_ready (rs := [5]) (by kernel_rfl) (by simp) ?_
    refine AllReadyH.cons rfl (fun K hK => ?_) AllReadyH.nil
    go_simp
    go_wp2_with (go_at_call 22; (with_reducible refine (KC.out _).mono ?_); rintro e w7 ⟨rfl, hb7⟩)
    have hS : (fun W => Lv N F1 w5 W) w7 := Lv.trans hS (Lv.of hb7)
    refine hK.out _ _ hS (fun _ => ?_)
    clear hK K
    refine wpAnyH_ready (rs := [9]) (by kernel_rfl) (by simp) ?_
    refine AllReadyH.cons rfl (fun K hK => ?_) AllReadyH.nil
    go_simp
    go_wp2_with (go_at_call 37; (with_reducible refine (KA.out _ _ _ hSes0 hb6 hri hb7 ck).mono ?_); rintro e w8 ⟨rfl, hSes, hl8⟩)
    have hS : (fun W => Lv N F1 w5 W) w8 := Lv.trans hS hl8
    clear hl8
    refine hK.out _ _ hS (fun _ => ?_)
    clear hK K
    refine wpAnyH_take (i := 10) (v := ?vC10) rfl (by kernel_rfl) (by kernel_rfl) (by kernel_rfl) (fun _ _ _ h => h) (Or.inl ⟨by rfl, ?hyC10⟩) hS ?restC10
    case hyC10 =>
      intro w hSw
      first | (go_simp; done) | (go_simp; with_reducible rfl)
    try simp only [Act.put, List.setIfInBounds_toArray, List.set_cons_zero, List.set_cons_succ]
    refine wpAnyH_done (by kernel_rfl) ?_ _
    try simp only [List.getElem_toArray, List.getElem_cons_succ, List.getElem_cons_zero, List.set_cons_zero, List.set_cons_succ]
    go_wp2
    go_ret
    exact ⟨rfl, ((hSes.less HFF.out).mono (by omega)).monoN (by omega), HL5.out.trans (hS.less HFF.out)⟩
  by_cases j6 : j = 6
  · subst j6
    simp only [show ((6 : Nat) : Int) = 6 from rfl, show ¬ ((6 : Int) = 0) by decide, show ¬ ((6 : Int) = 1) by decide, show ¬ ((6 : Int) = 5) by decide, if_false, if_true]
    have hm : a.kind.tmod 7 = 6 := hm
    go_enter Tryz.func14, Tryz.ntmps14
    go_upto_region 9 with fail
    generalize w.alloc (.cells #[.int .u8 a.kind, .int .u8 a.leg, .int .u8 a.more, .int .u8 a.equ, .int .u8 a.cls, .int .i8 a.n] actT) = w5 at *
    have f0 : ∀ W, Lv N F1 w5 W → _ := fun W h => Lv.cell h q0 (.inl hFb)
    have f1 : ∀ W, Lv N F1 w5 W → _ := fun W h => Lv.cell h q1 (.inl hFb)
    have f2 : ∀ W, Lv N F1 w5 W → _ := fun W h => Lv.cell h q2 (.inl hFb)
    have f3 : ∀ W, Lv N F1 w5 W → _ := fun W h => Lv.cell h q3 (.inl hFb)
    have f4 : ∀ W, Lv N F1 w5 W → _ := fun W h => Lv.cell h q4 (.inl hFb)
    have f5 : ∀ W, Lv N F1 w5 W → _ := fun W h => Lv.cell h q5 (.inl hFb)
    have hSes := SesE.drew hSes
    clear q0 q1 q2 q3 q4 q5
    have hS : (fun W => Lv N F1 w5 W) _ := (Lv.of (Below.refl _ _).drew)
    refine wp_region_held_drew (S := fun W => Lv N F1 w5 W) (by kernel_rfl) hS (fun _ => ?_)
    refine wpAnyH_take (i := 0) (v := ?vB0) rfl (by kernel_rfl) (by kernel_rfl) (by kernel_rfl) (fun _ _ _ h => h) (Or.inl ⟨by rfl, ?hyB0⟩) hS ?restB0
    case hyB0 =>
      intro w hSw
      first | (go_simp; done) | (go_simp; with_reducible rfl)
    try simp only [Act.put, List.setIfInBounds_toArray, List.set_cons_zero, List.set_cons_succ]
    refine wpAnyH_take (i := 1) (v := ?vB1) rfl (by kernel_rfl) (by kernel_rfl) (by kernel_rfl) (fun _ _ _ h => h) (Or.inl ⟨by rfl, ?hyB1⟩) hS ?restB1
    case hyB1 =>
      intro w hSw
      first | (go_simp; done) | (go_simp; with_reducible rfl)
    try simp only [Act.put, List.setIfInBounds_toArray, List.set_cons_zero, List.set_cons_succ]
    refine wpAnyH_take (i := 2) (v := ?vB2) rfl (by kernel_rfl) (by kernel_rfl) (by kernel_rfl) (fun _ _ _ h => h) (Or.inl ⟨by rfl, ?hyB2⟩) hS ?restB2
    case hyB2 =>
      intro w hSw
      have k0 := f0 w hSw; have k1 := f1 w hSw; have k2 := f2 w hSw; have k3 := f3 w hSw; have k4 := f4 w hSw; have k5 := f5 w hSw
      first | (go_simp; done) | (go_simp; with_reducible rfl)
    try simp only [Act.put, List.setIfInBounds_toArray, List.set_cons_zero, List.set_cons_succ]
    refine wpAnyH_take (i := 4) (v := ?vB4) rfl (by kernel_rfl) (by kernel_rfl) (by kernel_rfl) (fun _ _ _ h => h) (Or.inl ⟨by rfl, ?hyB4⟩) hS ?restB4
    case hyB4 =>
      intro w hSw
      first | (go_simp; done) | (go_simp; with_reducible rfl)
    try simp only [Act.put, List.setIfInBounds_toArray, List.set_cons_zero, List.set_cons_succ]
    refine wpAnyH_take (i := 5) (v := ?vB5) rfl (by kernel_rfl) (by kernel_rfl) (by kernel_rfl) (fun _ _ _ h => h) (Or.inl ⟨by rfl, ?hyB5⟩) hS ?restB5
    case hyB5 =>
      intro w hSw
      first | (go_simp; done) | (go_simp; with_reducible rfl)
    try simp only [Act.put, List.setIfInBounds_toArray, List.set_cons_zero, List.set_cons_succ]
    refine wpAnyH_take (i := 6) (v := ?vB6) rfl (by kernel_rfl) (by kernel_rfl) (by kernel_rfl) (fun _ _ _ h => h) (Or.inl ⟨by rfl, ?hyB6⟩) hS ?restB6
    case hyB6 =>
      intro w hSw
      have k0 := f0 w hSw; have k1 := f1 w hSw; have k2 := f2 w hSw; have k3 := f3 w hSw; have k4 := f4 w hSw; have k5 := f5 w hSw
      first | (go_simp; done) | (go_simp; with_reducible rfl)
    try simp only [Act.put, List.setIfInBounds_toArray, List.set_cons_zero, List.set_cons_succ]
    refine wpAnyH_ready (rs := [3]) (by kernel_rfl) (by simp) ?_
    refine AllReadyH.cons rfl (fun K hK => ?_) AllReadyH.nil
    go_simp
    go_wp2_with (go_at_call 18; (with_reducible refine (KI.out _).mono ?_); rintro e w6 ⟨rfl, hb6⟩)
    have hSes := SesE.grow hSes hb6
    have hS : (fun W => Lv N F1 w5 W) w6 := Lv.trans hS (Lv.of hb6)
    clear hb6
    refine hK.out _ _ hS (fun _ => ?_)
    clear hK K
    refine wpAnyH_ready (rs := [7]) (by kernel_rfl) (by simp) ?_
    refine AllReadyH.cons rfl (fun K hK => ?_) AllReadyH.nil
    go_simp
    go_wp2_with (go_at_call 27; (with_reducible refine (KQ.out _ hS).mono ?_); rintro e w7 ⟨rfl, rfl⟩)
    refine hK.out _ _ hS (fun _ => ?_)
    clear hK K
    refine wpAnyH_ready (rs := [8]) (by kernel_rfl) (by simp) ?_
    refine AllReadyH.cons rfl (fun K hK => ?_) AllReadyH.nil
    go_simp
    go_wp2_with (go_at_call 29; (with_reducible refine (KR.out _ hSes).mono ?_); rintro e w8 ⟨rfl, hSes, hl8⟩)
    have hS : (fun W => Lv N F1 w5 W) w8 := Lv.trans hS hl8
    clear hl8
    refine hK.out _ _ hS (fun _ => ?_)
    clear hK K
    refine wpAnyH_take (i := 9) (v := ?vB9) rfl (by kernel_rfl) (by kernel_rfl) (by kernel_rfl) (fun _ _ _ h => h) (Or.inl ⟨by rfl, ?hyB9⟩) hS ?restB9
    case hyB9 =>
      intro w hSw
      first | (go_simp; done) | (go_simp; with_reducible rfl)
    try simp only [Act.put, List.setIfInBounds_toArray, List.set_cons_zero, List.set_cons_succ]
    refine wpAnyH_done (by kernel_rfl) ?_ _
    try simp only [List.getElem_toArray, List.getElem_cons_succ, List.getElem_cons_zero, List.set_cons_zero, List.set_cons_succ]
    go_wp2
    go_ret
    exact ⟨rfl, ((hSes.less HFF.out).mono (by omega)).monoN (by omega), HL5.out.trans (hS.less HFF.out)⟩
  · have n0 : ¬ ((j : Int) = 0) := by omega
    have n1 : ¬ ((j : Int) = 1) := by omega
    have n5 : ¬ ((j : Int) = 5) := by omega
    have n6 : ¬ ((j : Int) = 6) := by omega
    simp only [n0, n1, n5, n6, if_false]
    have kw : IntKind.u8.wrap (j : Int) = (j : Int) := by unfold IntKind.wrap; simp [IntKind.bits, IntKind.signed]; omega
    have b0 : ((j : Int) == 0) = false := by rw [beq_eq_false_iff_ne]; exact n0
    have b1 : ((j : Int) == 1) = false := by rw [beq_eq_false_iff_ne]; exact n1
    have b5 : ((j : Int) == 5) = false := by rw [beq_eq_false_iff_ne]; exact n5
    have b6 : ((j : Int) == 6) = false := by rw [beq_eq_false_iff_ne]; exact n6
    clear n0 n1 n5 n6 j0 j1 j5 j6
    go_enter Tryz.func14, Tryz.ntmps14
    go_upto_region 10 with fail
    generalize w.alloc (.cells #[.int .u8 a.kind, .int .u8 a.leg, .int .u8 a.more, .int .u8 a.equ, .int .u8 a.cls, .int .i8 a.n] actT) = w5 at *
    have f0 : ∀ W, Lv N F1 w5 W → _ := fun W h => Lv.cell h q0 (.inl hFb)
    have f1 : ∀ W, Lv N F1 w5 W → _ := fun W h => Lv.cell h q1 (.inl hFb)
    have f2 : ∀ W, Lv N F1 w5 W → _ := fun W h => Lv.cell h q2 (.inl hFb)
    have f3 : ∀ W, Lv N F1 w5 W → _ := fun W h => Lv.cell h q3 (.inl hFb)
    have f4 : ∀ W, Lv N F1 w5 W → _ := fun W h => Lv.cell h q4 (.inl hFb)
    have f5 : ∀ W, Lv N F1 w5 W → _ := fun W h => Lv.cell h q5 (.inl hFb)
    have hSes := SesE.drew hSes
    clear q0 q1 q2 q3 q4 q5
    have hS : (fun W => Lv N F1 w5 W) _ := (Lv.of (Below.refl _ _).drew)
    refine wp_region_held_drew (S := fun W => Lv N F1 w5 W) (by kernel_rfl) hS (fun _ => ?_)
    refine wpAnyH_take (i := 0) (v := ?vD0) rfl (by kernel_rfl) (by kernel_rfl) (by kernel_rfl) (fun _ _ _ h => h) (Or.inl ⟨by rfl, ?hyD0⟩) hS ?restD0
    case hyD0 =>
      intro w hSw
      first | (go_simp; done) | (go_simp; with_reducible rfl)
    try simp only [Act.put, List.setIfInBounds_toArray, List.set_cons_zero, List.set_cons_succ]
    refine wpAnyH_take (i := 1) (v := ?vD1) rfl (by kernel_rfl) (by kernel_rfl) (by kernel_rfl) (fun _ _ _ h => h) (Or.inl ⟨by rfl, ?hyD1⟩) hS ?restD1
    case hyD1 =>
      intro w hSw
      have k0 := f0 w hSw; have k1 := f1 w hSw; have k2 := f2 w hSw; have k3 := f3 w hSw; have k4 := f4 w hSw; have k5 := f5 w hSw
      first | (go_simp; done) | (go_simp; with_reducible rfl)
    try simp only [Act.put, List.setIfInBounds_toArray, List.set_cons_zero, List.set_cons_succ]
    refine wpAnyH_take (i := 3) (v := ?vD3) rfl (by kernel_rfl) (by kernel_rfl) (by kernel_rfl) (fun _ _ _ h => h) (Or.inl ⟨by rfl, ?hyD3⟩) hS ?restD3
    case hyD3 =>
      intro w hSw
      first | (go_simp; done) | (go_simp; with_reducible rfl)
    try simp only [Act.put, List.setIfInBounds_toArray, List.set_cons_zero, List.set_cons_succ]
    refine wpAnyH_take (i := 4) (v := ?vD4) rfl (by kernel_rfl) (by kernel_rfl) (by kernel_rfl) (fun _ _ _ h => h) (Or.inl ⟨by rfl, ?hyD4⟩) hS ?restD4
    case hyD4 =>
      intro w hSw
      have k0 := f0 w hSw; have k1 := f1 w hSw; have k2 := f2 w hSw; have k3 := f3 w hSw; have k4 := f4 w hSw; have k5 := f5 w hSw
      first | (go_simp; done) | (go_simp; with_reducible rfl)
    try simp only [Act.put, List.setIfInBounds_toArray, List.set_cons_zero, List.set_cons_succ]
    refine wpAnyH_take (i := 6) (v := ?vD6) rfl (by kernel_rfl) (by kernel_rfl) (by kernel_rfl) (fun _ _ _ h => h) (Or.inl ⟨by rfl, ?hyD6⟩) hS ?restD6
    case hyD6 =>
      intro w hSw
      first | (go_simp; done) | (go_simp; with_reducible rfl)
    try simp only [Act.put, List.setIfInBounds_toArray, List.set_cons_zero, List.set_cons_succ]
    refine wpAnyH_take (i := 7) (v := ?vD7) rfl (by kernel_rfl) (by kernel_rfl) (by kernel_rfl) (fun _ _ _ h => h) (Or.inl ⟨by rfl, ?hyD7⟩) hS ?restD7
    case hyD7 =>
      intro w hSw
      have k0 := f0 w hSw; have k1 := f1 w hSw; have k2 := f2 w hSw; have k3 := f3 w hSw; have k4 := f4 w hSw; have k5 := f5 w hSw
      first | (go_simp; done) | (go_simp; with_reducible rfl)
    try simp only [Act.put, List.setIfInBounds_toArray, List.set_cons_zero, List.set_cons_succ]
    refine wpAnyH_take (i := 8) (v := ?vD8) rfl (by kernel_rfl) (by kernel_rfl) (by kernel_rfl) (fun _ _ _ h => h) (Or.inl ⟨by rfl, ?hyD8⟩) hS ?restD8
    case hyD8 =>
      intro w hSw
      first | (go_simp; done) | (go_simp; with_reducible rfl)
    try simp only [Act.put, List.setIfInBounds_toArray, List.set_cons_zero, List.set_cons_succ]
    refine wpAnyH_ready (rs := [2]) (by kernel_rfl) (by simp) ?_
    refine AllReadyH.cons rfl (fun K hK => ?_) AllReadyH.nil
    go_simp
    have hSes0 := hSes
    go_wp2_with (go_at_call 43; (with_reducible refine (KD.out _).mono ?_); rintro e w6 ⟨⟨Ai, cci, rfl, hri⟩, hb6⟩)
    have hS : (fun W => Lv N F1 w5 W) w6 := Lv.trans hS (Lv.of hb6)
    refine hK.out _ _ hS (fun _ => ?_)
    clear hK K
    refine wpAnyH_ready (rs := [5]) (by kernel_rfl) (by simp) ?_
    refine AllReadyH.cons rfl (fun K hK => ?_) AllReadyH.nil
    go_simp
    go_wp2_with (go_at_call 22; (with_reducible refine (KC.out _).mono ?_); rintro e w7 ⟨rfl, hb7⟩)
    have hS : (fun W => Lv N F1 w5 W) w7 := Lv.trans hS (Lv.of hb7)
    refine hK.out _ _ hS (fun _ => ?_)
    clear hK K
    refine wpAnyH_ready (rs := [9]) (by kernel_rfl) (by simp) ?_
    refine AllReadyH.cons rfl (fun K hK => ?_) AllReadyH.nil
    go_simp
    go_wp2_with (go_at_call 23; (with_reducible refine (KS.out _ _ _ hSes0 hb6 hri hb7 ck).mono ?_); rintro e w8 ⟨rfl, hSes, hl8⟩)
    have hS : (fun W => Lv N F1 w5 W) w8 := Lv.trans hS hl8
    clear hl8
    refine hK.out _ _ hS (fun _ => ?_)
    clear hK K
    refine wpAnyH_take (i := 10) (v := ?vD10) rfl (by kernel_rfl) (by kernel_rfl) (by kernel_rfl) (fun _ _ _ h => h) (Or.inl ⟨by rfl, ?hyD10⟩) hS ?restD10
    case hyD10 =>
      intro w hSw
      first | (go_simp; done) | (go_simp; with_reducible rfl)
    try simp only [Act.put, List.setIfInBounds_toArray, List.set_cons_zero, List.set_cons_succ]
    refine wpAnyH_done (by kernel_rfl) ?_ _
    try simp only [List.getElem_toArray, List.getElem_cons_succ, List.getElem_cons_zero, List.set_cons_zero, List.set_cons_succ]
    go_wp2
    go_ret
    have hmx : max a.n 0 ≤ 127 := by have := HN.out; omega
    exact ⟨rfl, ((hSes.less HFF.out).mono (by omega)).monoN (by omega), HL5.out.trans (hS.less HFF.out)⟩
end Go.Proofs.YtjmahmeionakaaaGreatDoor

/- Calls of an inventory among the arguments, opened. -/
namespace Go.Proofs.YtjmahmeionakaaaGreatDoor
open Go.ChangeShapes Go.WideShapes Go.ChangeAt Go.RowKit
open Go.ChangeMaps (open_string shut_string)
set_option linter.unusedSimpArgs false
set_option linter.unusedVariables false

theorem u8_bounds {a : Int} (h : (Lit.int .u8 a).wf = true) : 0 ≤ a ∧ a ≤ 255 := by
  have e1 : IntKind.u8.min = 0 := rfl
  have e2 : IntKind.u8.max = 255 := rfl
  simp only [Lit.wf, e1, e2, Bool.and_eq_true, decide_eq_true_eq] at h
  omega
theorem i8_bounds {a : Int} (h : (Lit.int .i8 a).wf = true) : -128 ≤ a ∧ a ≤ 127 := by
  have e1 : IntKind.i8.min = -128 := rfl
  have e2 : IntKind.i8.max = 127 := rfl
  simp only [Lit.wf, e1, e2, Bool.and_eq_true, decide_eq_true_eq] at h
  omega
theorem cells_u8 : Tryz.prog.cellsOf 5 = 1 := by kernel_rfl
theorem cells_i8 : Tryz.prog.cellsOf 35 = 1 := by kernel_rfl
theorem cells_act : Tryz.prog.cellsOf 37 = 6 := by kernel_rfl
theorem len6 {α : Type} : ∀ {l : List α}, l.length = 6 → ∃ a b c d e f, l = [a, b, c, d, e, f]
  | [a, b, c, d, e, f], _ => ⟨a, b, c, d, e, f, rfl⟩
theorem array6 {α : Type} {cs : Array α} (h : cs.size = 6) : ∃ c0 c1 c2 c3 c4 c5, cs = #[c0, c1, c2, c3, c4, c5] := by
  obtain ⟨l⟩ := cs
  match l, h with
  | [c0, c1, c2, c3, c4, c5], _ => exact ⟨c0, c1, c2, c3, c4, c5, rfl⟩
instance : Inhabited Ac := ⟨⟨0, 0, 0, 0, 0, 0⟩⟩
set_option maxRecDepth 100000 in
theorem read_act {H : Type} {enc : TypeId × Value → H} {W : World} {n : Nat} {c0 c1 c2 c3 c4 c5 : Value} {y : DataW H × List MemPlace} (h : DataW.trod enc Tryz.prog W 0 (fun _ => true) true n 37 [c0, c1, c2, c3, c4, c5] = some y) :
    ∃ x : Ac, [c0, c1, c2, c3, c4, c5] = encA x ∧ OkA x := by
  obtain ⟨xs, k, _, _, _, hxl, hf⟩ := DataW.trod_struct Tryz.underlying37 h
  obtain ⟨y0, y1, y2, y3, y4, y5, rfl⟩ := len6 hxl
  all_goals
    have g0 := hf 0 _ rfl
    have g1 := hf 1 _ rfl
    have g2 := hf 2 _ rfl
    have g3 := hf 3 _ rfl
    have g4 := hf 4 _ rfl
    have g5 := hf 5 _ rfl
    simp [cells_u8, cells_i8] at g0 g1 g2 g3 g4 g5
    obtain ⟨x0, e0, _, w0⟩ := DataW.trod_int Tryz.underlying5 g0
    obtain ⟨x1, e1, _, w1⟩ := DataW.trod_int Tryz.underlying5 g1
    obtain ⟨x2, e2, _, w2⟩ := DataW.trod_int Tryz.underlying5 g2
    obtain ⟨x3, e3, _, w3⟩ := DataW.trod_int Tryz.underlying5 g3
    obtain ⟨x4, e4, _, w4⟩ := DataW.trod_int Tryz.underlying5 g4
    obtain ⟨x5, e5, _, w5⟩ := DataW.trod_int Tryz.underlying35 g5
    simp at e0 e1 e2 e3 e4 e5
    subst e0 e1 e2 e3 e4 e5
    exact ⟨⟨x0, x1, x2, x3, x4, x5⟩, rfl, ⟨u8_bounds w0, u8_bounds w1, u8_bounds w2, u8_bounds w3, u8_bounds w4, i8_bounds w5⟩⟩
set_option maxRecDepth 100000 in
/-- a list of calls by value, opened -/
theorem open_acts {H : Type} {enc : TypeId × Value → H} {W : World} {b0 : Nat} {v : Value} {d : DataW H} {p : List MemPlace} (hv : Value.okWide Tryz.prog W .any b0 23 v) (h : DataW.Trod enc Tryz.prog W 0 (fun _ => true) true 23 v d p) :
    ∃ (A : Option Addr) (c : Nat) (l : List Ac), v = .slice A l.length c ∧ RowL 6 encA W (.slice A l.length c) l ∧ (∀ x ∈ l, OkA x) ∧ l.length < 9223372036854775808 := by
  obtain ⟨a, len, cap, rfl⟩ := okWide_slice Tryz.underlying23 hv
  obtain ⟨fuel, hf⟩ := h
  exact read_rowK (enc' := encA) (Ok := OkA) Tryz.underlying23 cells_act (by omega) (fun _ => rfl) (fun m cs yy hl h => by
    obtain ⟨c0, c1, c2, c3, c4, c5, rfl⟩ := len6 hl
    exact read_act h) hf
set_option maxRecDepth 100000 in
/-- a call by value, opened -/
theorem open_act {H : Type} {enc : TypeId × Value → H} {W : World} {b0 : Nat} {v : Value} {d : DataW H} {p : List MemPlace} (hv : Value.okWide Tryz.prog W .any b0 37 v) (h : DataW.Trod enc Tryz.prog W 0 (fun _ => true) true 37 v d p) :
    ∃ a : Ac, v = aggA a ∧ OkA a := by
  obtain ⟨cs, rfl, hsz⟩ := okWide_struct Tryz.underlying37 hv
  obtain ⟨c0, c1, c2, c3, c4, c5, rfl⟩ := array6 (hsz.trans cells_act)
  obtain ⟨fuel, hf⟩ := h
  obtain ⟨i, e, h1⟩ := read_act hf
  refine ⟨i, ?_, h1⟩
  simp only [encA, List.cons.injEq, and_true] at e
  obtain ⟨e0, e1, e2, e3, e4, e5⟩ := e
  rw [e0, e1, e2, e3, e4, e5]
end Go.Proofs.YtjmahmeionakaaaGreatDoor

/- Closed facts on the program and its rows: what each law names, whom it follows. -/
namespace Go.Proofs.YtjmahmeionakaaaGreatDoor

theorem stockExact_c1 : Tryz.pinned.checked.prog.inPlace 5 = Rows.stockExactRow.inPlace := by kernel_rfl
theorem stockExact_c2 : Tryz.pinned.checked.prog.unfollowed 5 = Rows.stockExactRow.unfollowed := by kernel_rfl
theorem stockExact_c3 : Tryz.pinned.checked.prog.recurses 5 = Rows.stockExactRow.recurses := by kernel_rfl
theorem stockExact_c4 : Tryz.pinned.checked.prog.varsNamed 5 = Rows.stockExactRow.named := by kernel_rfl
theorem stockResizes_c1 : Tryz.pinned.checked.prog.inPlace 7 = Rows.stockResizesRow.inPlace := by kernel_rfl
theorem stockResizes_c2 : Tryz.pinned.checked.prog.unfollowed 7 = Rows.stockResizesRow.unfollowed := by kernel_rfl
theorem stockResizes_c3 : Tryz.pinned.checked.prog.recurses 7 = Rows.stockResizesRow.recurses := by kernel_rfl
theorem stockResizes_c4 : Tryz.pinned.checked.prog.varsNamed 7 = Rows.stockResizesRow.named := by kernel_rfl
theorem stockLimits_c1 : Tryz.pinned.checked.prog.inPlace 4 = Rows.stockLimitsRow.inPlace := by kernel_rfl
theorem stockLimits_c2 : Tryz.pinned.checked.prog.unfollowed 4 = Rows.stockLimitsRow.unfollowed := by kernel_rfl
theorem stockLimits_c3 : Tryz.pinned.checked.prog.recurses 4 = Rows.stockLimitsRow.recurses := by kernel_rfl
theorem stockLimits_c4 : Tryz.pinned.checked.prog.varsNamed 4 = Rows.stockLimitsRow.named := by kernel_rfl

end Go.Proofs.YtjmahmeionakaaaGreatDoor

/- Right, known, Played. -/
namespace Go.Proofs.YtjmahmeionakaaaGreatDoor
open Go.RowKit Go.Shelf Go.Maps Go.MapKept
set_option linter.unusedSimpArgs false
set_option linter.unusedVariables false

def RightR (l : List Cf) (n : Nat) (w : World) (e : Ending) (w' : World) : Prop := ∃ b : Bool, e = .returned (.bool b) ∧ (b = true → SmallP l ∧ n ≤ 60 ∧ conF l l.length = []) ∧ Below w.heap.size w w'
set_option maxRecDepth 100000 in
set_option maxHeartbeats 4000000 in
theorem right15_any (A : Option Addr) (c : Nat) (l : List Cf) (A2 : Option Addr) (c2 n : Nat) (w : World) (hv : CfL w (.slice A l.length c) l) (hok : SmallP l → ∀ f ∈ l, OkCf f) :
    Calls Tryz.prog 10 #[.slice A l.length c, .slice A2 n c2] w fun e w' => RightR l n w e w' := by
  have KS := Lib.hid (small_any A c l w hv)
  by_cases hs : SmallP l
  · rw [small_yes hs] at KS
    have hn := hs.1
    have hok := hok hs
    have KR := Lib.hid (rcheck_any A c l w hv hn hok)
    have HS := Lib.hid hs
    clear hs hok hv
    by_cases h60 : n ≤ 60
    · have i1 : (n : Int) ≤ 60 := by omega
      by_cases h0 : conF l l.length = []
      · have HR : Hid (SmallP l ∧ n ≤ 60 ∧ conF l l.length = []) := Lib.hid ⟨HS.out, h60, h0⟩
        rw [h0] at KR
        clear h0
        go_enter Tryz.func10, Tryz.ntmps10
        go_wp2_with (first
          | (go_at_call 32; (with_reducible refine (KS.out).mono ?_); rintro e w' ⟨rfl, rfl⟩)
          | (go_at_call 33; (with_reducible refine (KR.out).mono ?_); rintro e w7 ⟨v2, rfl, hO2, hb7⟩; obtain ⟨A3, c3, rfl, _⟩ := hO2.rowL rtF.len))
        go_ret
        exact ⟨true, rfl, fun _ => HR.out, hb7⟩
      · have HL : Hid (0 < (conF l l.length).length) := Lib.hid (List.length_pos_iff.2 h0)
        obtain ⟨L, hLL⟩ : ∃ L, L = conF l l.length := ⟨_, rfl⟩
        rw [← hLL] at KR HL
        clear hLL
        have i2 : ((L.length : Int) == 0) = false := by rw [beq_eq_false_iff_ne]; have := HL.out; omega
        clear h0
        go_enter Tryz.func10, Tryz.ntmps10
        go_wp2_with (first
          | (go_at_call 32; (with_reducible refine (KS.out).mono ?_); rintro e w' ⟨rfl, rfl⟩)
          | (go_at_call 33; (with_reducible refine (KR.out).mono ?_); rintro e w7 ⟨v2, rfl, hO2, hb7⟩; obtain ⟨A3, c3, rfl, _⟩ := hO2.rowL rtF.len))
        go_ret
        exact ⟨false, rfl, fun h => (by cases h), hb7⟩
    · have i1 : ¬ (n : Int) ≤ 60 := by omega
      go_enter Tryz.func10, Tryz.ntmps10
      go_wp2_with (go_at_call 32; (with_reducible refine (KS.out).mono ?_); rintro e w' ⟨rfl, rfl⟩)
      go_ret
      exact ⟨false, rfl, fun h => (by cases h), Below.refl _ _⟩
  · rw [small_no hs] at KS
    clear hs hv hok
    go_enter Tryz.func10, Tryz.ntmps10
    go_wp2_with (go_at_call 32; (with_reducible refine (KS.out).mono ?_); rintro e w' ⟨rfl, rfl⟩)
    go_ret
    exact ⟨false, rfl, fun h => (by cases h), Below.refl _ _⟩
/-- the state behind the first k calls -/
def playG (cs l : List Cf) (acts : List Ac) (k : Nat) : Stk := (acts.take k).foldl (doG cs l) S0
theorem playG_succ {cs l : List Cf} {acts : List Ac} {k : Nat} {a : Ac} (h : acts[k]? = some a) : playG cs l acts (k + 1) = doG cs l (playG cs l acts k) a := by
  unfold playG
  rw [List.take_add_one, h, List.foldl_append]
  rfl
def PlayR (l : List Cf) (acts : List Ac) (w : World) (e : Ending) (w' : World) : Prop := ∃ B cs R, e = .returned (.tuple #[.pointer (some ⟨B, 0, none⟩), .bool true]) ∧ SesE w.heap.size R (fun _ => False) B 60 cs 7620 w' (playG cs l acts acts.length) ∧ SamL cs l ∧ Below w.heap.size w w'
set_option maxRecDepth 100000 in
set_option maxHeartbeats 4000000 in
theorem played_any (A : Option Addr) (c : Nat) (l : List Cf) (A2 : Option Addr) (c2 : Nat) (acts : List Ac) (w : World) (hv : CfL w (.slice A l.length c) l) (hs : SmallP l) (hok : ∀ f ∈ l, OkCf f) (hcap : l.length ≤ c) (h0 : conF l l.length = []) (hA : RowL 6 encA w (.slice A2 acts.length c2) acts) (hAo : ∀ a ∈ acts, OkA a) (hn : acts.length ≤ 60) :
    Calls Tryz.prog 20 #[.slice A l.length c, .slice A2 acts.length c2] w fun e w' => PlayR l acts w e w' := by
  have KN : Hid (Calls Tryz.prog 12 #[.slice A l.length c] w fun e w' => ∃ B cs R, e = .returned (.tuple #[.pointer (some ⟨B, 0, none⟩), .slice none 0 0]) ∧ SesE w.heap.size R (fun _ => False) B 0 cs 0 w' S0 ∧ SamL cs l ∧ Below w.heap.size w w') := Lib.hid ((new_any A c l w hv hs hok hcap).mono (by
    rintro e w' ⟨⟨_, h2⟩, hb⟩
    obtain ⟨B, cs, R, o, rfl, hS, hsam, hlow⟩ := h2 h0
    exact ⟨B, cs, R, rfl, ses_new hS hlow hb.size, hsam, hb⟩))
  have hl8 : l.length ≤ 100 := by have := hs.1; omega
  have hlo : ∀ f ∈ l, f.equip.size ≤ maxLen := fun f hf => (hok f hf).equip
  have KD : Hid (∀ (B : Nat) cs R (k : Nat) (W : World) (g : Stk) (a : Ac), SesE w.heap.size R (fun _ => False) B k cs (127 * (k : Int)) W g → k ≤ 60 → Below w.heap.size w W → OkA a → Calls Tryz.prog 14 #[.pointer (some ⟨B, 0, none⟩), .slice A l.length c, aggA a] W fun e w' => e = .returned (.int .i64 (doE cs l g a)) ∧ SesE w.heap.size R (fun _ => False) B (k + 1) cs (127 * (k : Int) + 127) w' (doG cs l g a) ∧ Lv w.heap.size (fun _ => False) W w') := Lib.hid (fun B cs R k W g a hS hk hb ha => do_any hS ⟨by omega, by omega⟩ (by omega) (fun W' hW' => hv.more (hb.trans hW')) hl8 hlo ha)
  have HA := Lib.hid hA
  have HAO := Lib.hid hAo
  clear hv hok hs h0 hA hAo hlo hl8
  go_enter Tryz.func20, Tryz.ntmps20
  go_upto_region 4 with (go_at_call 12; (with_reducible refine (KN.out).mono ?_); rintro e w1 ⟨B, cs, R, rfl, hS, hsam, hb1⟩)
  have HSM := Lib.hid hsam
  have HB1 := Lib.hid hb1
  have HS0 := Lib.hid hS
  clear hsam hb1 hS
  go_wp2
  go_loopw [8] (fun vi wr => ∃ k : Nat, k ≤ acts.length ∧ vi = .int .i64 k ∧ Hid (SesE w.heap.size R (fun _ => False) B k cs (127 * (k : Int)) wr (playG cs l acts k) ∧ Below w.heap.size w wr)) (fun vi _ => acts.length - (intOf vi).toNat)
  case atStart => exact ⟨0, Nat.zero_le _, rfl, Lib.hid ⟨HS0.out, HB1.out⟩⟩
  case round =>
    obtain ⟨k, hk, rfl, HI⟩ := hrel
    by_cases hlt : k < acts.length
    · obtain ⟨a, ha⟩ : ∃ a, acts[k]? = some a := ⟨_, List.getElem?_eq_getElem hlt⟩
      obtain ⟨b, o, rfl, _, hc⟩ := row_get (RowL.more HA.out HI.out.2) ha
      have x0 := hc 0 _ rfl
      have x1 := hc 1 _ rfl
      have x2 := hc 2 _ rfl
      have x3 := hc 3 _ rfl
      have x4 := hc 4 _ rfl
      have x5 := hc 5 _ rfl
      rw [Nat.add_zero] at x0
      have i1 : (0 : Int) ≤ (k : Int) := by omega
      have i2 : (k : Int) < (acts.length : Int) := by omega
      have w1 : IntKind.i64.wrap ((k : Int) + 1) = (k : Int) + 1 := IntWalk.i64_in _ (by omega)
      have HG := Lib.hid (playG_succ (cs := cs) (l := l) ha)
      have HOA := Lib.hid (HAO.out a (List.mem_of_getElem? ha))
      clear ha hc
      go_wp2_with (go_at_call 14; (with_reducible refine (KD.out B cs R k _ _ a HI.out.1 (by omega) HI.out.2 HOA.out).mono ?_); rintro e w9 ⟨rfl, hS9, hl9⟩)
      have HI2 : Hid (SesE w.heap.size R (fun _ => False) B (k + 1) cs (127 * ((k + 1 : Nat) : Int)) w9 (playG cs l acts (k + 1)) ∧ Below w.heap.size w w9) := Lib.hid ⟨by rw [HG.out, show (127 * ((k + 1 : Nat) : Int)) = 127 * (k : Int) + 127 by omega]; exact hS9, HI.out.2.trans (hl9.below HI.out.2.size)⟩
      clear hS9 hl9
      go_roundw
      case rel => exact ⟨k + 1, by omega, by go_num, HI2⟩
      case measure => simp [intOf]; omega
    · obtain rfl : k = acts.length := by omega
      have i2 : ¬ (acts.length : Int) < (acts.length : Int) := by omega
      go_wp2
      refine bodyPost_ret (results_tmp2 rfl _ _ _) rfl ⟨B, cs, R, rfl, (HI.out.1.monoN hn).mono (by omega), HSM.out, HI.out.2⟩
set_option maxRecDepth 100000 in
set_option maxHeartbeats 4000000 in
theorem known_any (A : Option Addr) (c : Nat) (l : List Cf) (s : ByteArray) (w : World) (hv : CfL w (.slice A l.length c) l) (hn : l.length ≤ 8) :
    Calls Tryz.prog 30 #[.slice A l.length c, .string s] w fun e w' => e = .returned (.bool (findQ l s).isSome) ∧ Below w.heap.size w w' := by
  have K := Lib.hid (rfind_any A c l s w hv hn)
  clear hv
  generalize (findQ l s) = o at *
  go_enter Tryz.func30, Tryz.ntmps30
  go_wp2_with (go_at_call 73; (with_reducible refine K.out.mono ?_); rintro e w6 ⟨⟨f, rfl, _⟩, hb6⟩)
  go_ret
  exact ⟨rfl, hb6.trans ((bel_alloc w6 _).mono hb6.size)⟩
end Go.Proofs.YtjmahmeionakaaaGreatDoor
