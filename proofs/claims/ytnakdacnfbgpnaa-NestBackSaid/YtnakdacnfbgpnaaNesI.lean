/- Right cabins; the chapter's examples. -/
import Derived.Test.YtnakdacnfbgpnaaNesH
namespace Go.Proofs.Ytnakdacnfbgpnaa
open Go.RowKit Go.Shelf
set_option linter.unusedSimpArgs false
set_option linter.unusedVariables false

def eqA : ByteArray := ⟨#[51, 50, 48]⟩
/-- the configuration of one cabin -/
def cfOf (A : Option Addr) (b : Cb) : Cf := ⟨eqA, A, 1, [b]⟩
theorem cfOf_F (A B : Option Addr) (b : Cb) : conF [cfOf A b] 1 = conF [cfOf B b] 1 := rfl
def rtP (b : Cb) (s : List Int) : Prop := b.l.length ≤ 30 ∧ s.length ≤ 60 ∧ b.name.size ≤ 100 ∧ conF [cfOf none b] 1 = []
/-- what a cabin is that was read -/
structure RdC (b : Cb) : Prop where
  name : b.name.size ≤ maxLen
  cls : ∀ x ∈ b.l, OkCl x
/-- a cabin that is right -/
structure RgC (b : Cb) : Prop where
  lim : LimP b
  pos : ∀ k, k < b.l.length → 0 ≤ limA b k
  down : ∀ k, k + 1 < b.l.length → limA b (k + 1) ≤ limA b k
theorem rtP.rgC {b : Cb} {s : List Int} (h : rtP b s) : RgC b := by
  obtain ⟨h1, h2, h3, h4⟩ := h
  have hr := right_of (l := [cfOf none b]) h4 (cfOf none b) (by simp)
  obtain ⟨g1, g2, g3⟩ := lim_right hr (b := b) (by simp [cfOf]) h1
  exact ⟨g1, g2, g3⟩
theorem own_form {α : Type} {enc : α → List Value} {e : TypeId} {sz B : Nat} {w : World} {v : Value} {l : List α} (h : ROwn e sz enc B w v l) (hlen : ∀ x, (enc x).length = sz) : ∃ A c, v = .slice A l.length c ∧ RowL sz enc w v l := by
  obtain ⟨A, c, e, _⟩ := id (h.rowL hlen)
  exact ⟨A, c, e, h.rowL hlen⟩
set_option maxRecDepth 100000 in
set_option maxHeartbeats 4000000 in
theorem chk_of (b : Cb) (w : World) (hd : RdC b) (hb : CbAt w b) (h1 : b.l.length ≤ 30) :
    Calls Try.prog 22 #[.slice (some ⟨w.heap.size + 1, 0, none⟩) 1 1] ((w.alloc (.cells #[.string b.name, .int .i64 b.seats, .int .i64 b.over, .slice b.A b.l.length b.c] cbT)).alloc (.cells #[.string eqA, .slice (some ⟨w.heap.size, 0, none⟩) 1 1] cfT)) fun e w' => ∃ A' c', e = .returned (.slice A' (conF [cfOf none b] 1).length c') ∧ Below w.heap.size w w' := by
  have hb1 := bel_alloc w (.cells #[.string b.name, .int .i64 b.seats, .int .i64 b.over, .slice b.A b.l.length b.c] cbT)
  have hb2 := bel_alloc (w.alloc (.cells #[.string b.name, .int .i64 b.seats, .int .i64 b.over, .slice b.A b.l.length b.c] cbT)) (.cells #[.string eqA, .slice (some ⟨w.heap.size, 0, none⟩) 1 1] cfT)
  have hb3 := hb1.trans (hb2.mono hb1.size)
  have r1 : RowL 4 encCb (w.alloc (.cells #[.string b.name, .int .i64 b.seats, .int .i64 b.over, .slice b.A b.l.length b.c] cbT)) (.slice (some ⟨w.heap.size, 0, none⟩) 1 1) [b] := RowL.new w [b] cbT (enc := encCb) (sz := 4) (fun x => rfl) (cs := #[.string b.name, .int .i64 b.seats, .int .i64 b.over, .slice b.A b.l.length b.c]) rfl 1
  have r2 : RowL 2 encCf ((w.alloc (.cells #[.string b.name, .int .i64 b.seats, .int .i64 b.over, .slice b.A b.l.length b.c] cbT)).alloc (.cells #[.string eqA, .slice (some ⟨w.heap.size, 0, none⟩) 1 1] cfT)) (.slice (some ⟨w.heap.size + 1, 0, none⟩) 1 1) [cfOf (some ⟨w.heap.size, 0, none⟩) b] := by
    have h := RowL.new (w.alloc (.cells #[.string b.name, .int .i64 b.seats, .int .i64 b.over, .slice b.A b.l.length b.c] cbT)) [cfOf (some ⟨w.heap.size, 0, none⟩) b] cfT (fun x => rfl) (enc := encCf) (sz := 2) (cs := #[.string eqA, .slice (some ⟨w.heap.size, 0, none⟩) 1 1]) rfl 1
    rw [World.size_alloc] at h
    exact h
  have hv : CfL ((w.alloc (.cells #[.string b.name, .int .i64 b.seats, .int .i64 b.over, .slice b.A b.l.length b.c] cbT)).alloc (.cells #[.string eqA, .slice (some ⟨w.heap.size, 0, none⟩) 1 1] cfT)) (.slice (some ⟨w.heap.size + 1, 0, none⟩) 1 1) [cfOf (some ⟨w.heap.size, 0, none⟩) b] :=
    ⟨r2, fun f hf => by
      obtain rfl := List.mem_singleton.1 hf
      exact ⟨r1.more hb2, fun x hx => by
        obtain rfl := List.mem_singleton.1 hx
        exact hb.more hb3⟩⟩
  have hok : ∀ f ∈ [cfOf (some ⟨w.heap.size, 0, none⟩) b], OkCf f := fun f hf => by
    obtain rfl := List.mem_singleton.1 hf
    refine ⟨show eqA.size ≤ maxLen from by unfold maxLen; decide, by simp [cfOf], fun x hx => ?_⟩
    obtain rfl := List.mem_singleton.1 hx
    exact ⟨hd.name, h1, hd.cls⟩
  refine (rcheck_any (some ⟨w.heap.size + 1, 0, none⟩) 1 [cfOf (some ⟨w.heap.size, 0, none⟩) b] _ hv (by simp) hok).mono ?_
  rintro e w' ⟨v', rfl, hO, hb'⟩
  obtain ⟨A', c', rfl, _⟩ := own_form hO (fun x => rfl)
  exact ⟨A', c', rfl, hb3.trans (hb'.mono hb3.size)⟩
set_option maxRecDepth 100000 in
set_option maxHeartbeats 4000000 in
theorem right_no (b : Cb) (A : Option Addr) (c : Nat) (s : List Int) (w : World) (hd : RdC b) (hb : CbAt w b) (hL : IntR w (.slice A s.length c) s) (hh : b.l.length < 9223372036854775808) (hh2 : s.length < 9223372036854775808) (h : ¬ rtP b s) :
    Calls Try.prog 8 #[aggCb b, .slice A s.length c] w fun e w' => e = .returned (.bool false) ∧ Below w.heap.size w w' := by
  have hbA := bel_alloc w (.cells #[.string b.name, .int .i64 b.seats, .int .i64 b.over, .slice b.A b.l.length b.c] cbT)
  have q0 := cb_cells w b 0 _ rfl
  have q1 := cb_cells w b 1 _ rfl
  have q2 := cb_cells w b 2 _ rfl
  have q3 := cb_cells w b 3 _ rfl
  have HA := Lib.hid hbA
  by_cases h1 : b.l.length ≤ 30
  rotate_left
  · have i1 : ¬ (b.l.length : Int) ≤ 30 := by omega
    clear h h1 hb hL
    go_enter Try.func8, Try.ntmps8
    go_wp2_with (fail)
    go_ret
    exact ⟨rfl, HA.out⟩
  have i1 : (b.l.length : Int) ≤ 30 := by omega
  by_cases h2 : s.length ≤ 60
  rotate_left
  · have i2 : ¬ (s.length : Int) ≤ 60 := by omega
    clear h h1 h2 hb hL
    go_enter Try.func8, Try.ntmps8
    go_wp2_with (fail)
    go_ret
    exact ⟨rfl, HA.out⟩
  have i2 : (s.length : Int) ≤ 60 := by omega
  by_cases h3 : b.name.size ≤ 100
  rotate_left
  · have i3 : ¬ (b.name.size : Int) ≤ 100 := by omega
    clear h h1 h2 h3 hb hL
    go_enter Try.func8, Try.ntmps8
    go_wp2_with (fail)
    go_ret
    exact ⟨rfl, HA.out⟩
  have i3 : (b.name.size : Int) ≤ 100 := by omega
  have hne : conF [cfOf none b] 1 ≠ [] := fun h4 => h ⟨h1, h2, h3, h4⟩
  obtain ⟨nf, hnf⟩ : ∃ nf, nf = (conF [cfOf none b] 1).length := ⟨_, rfl⟩
  have hn0 : nf ≠ 0 := by rw [hnf]; exact fun e => hne (List.eq_nil_of_length_eq_zero e)
  have e1 : ((nf : Int) == 0) = false := by simp; omega
  have KC : Hid (Calls Try.prog 22 #[.slice (some ⟨(w.alloc (.cells #[.string b.name, .int .i64 b.seats, .int .i64 b.over, .slice b.A b.l.length b.c] cbT)).heap.size + 1, 0, none⟩) 1 1] (((w.alloc (.cells #[.string b.name, .int .i64 b.seats, .int .i64 b.over, .slice b.A b.l.length b.c] cbT)).alloc (.cells #[.string b.name, .int .i64 b.seats, .int .i64 b.over, .slice b.A b.l.length b.c] cbT)).alloc (.cells #[.string eqA, .slice (some ⟨(w.alloc (.cells #[.string b.name, .int .i64 b.seats, .int .i64 b.over, .slice b.A b.l.length b.c] cbT)).heap.size, 0, none⟩) 1 1] cfT)) fun e w' => ∃ A' c', e = .returned (.slice A' nf c') ∧ Below w.heap.size w w') := Lib.hid ((chk_of b _ hd (hb.more hbA) h1).mono (by
    rintro e w' ⟨A', c', rfl, hb'⟩
    exact ⟨A', c', by rw [hnf], hbA.trans (hb'.mono hbA.size)⟩))
  clear h h1 h2 h3 hb hL hne hnf hd hh hh2 hn0
  go_enter Try.func8, Try.ntmps8
  go_upto_region 1 with fail
  generalize w.alloc (.cells #[.string b.name, .int .i64 b.seats, .int .i64 b.over, .slice b.A b.l.length b.c] cbT) = w5 at *
  go_wp2_with (go_at_call 22; refine KC.out.mono ?_; rintro e w6 ⟨A6, c6, rfl, hb6⟩)
  go_ret
  exact ⟨rfl, hb6⟩
set_option maxRecDepth 100000 in
set_option maxHeartbeats 4000000 in
theorem right_yes (b : Cb) (A : Option Addr) (c : Nat) (s : List Int) (w : World) (hd : RdC b) (hb : CbAt w b) (h : rtP b s) :
    Calls Try.prog 8 #[aggCb b, .slice A s.length c] w fun e w' => e = .returned (.bool true) ∧ Below w.heap.size w w' := by
  have hbA := bel_alloc w (.cells #[.string b.name, .int .i64 b.seats, .int .i64 b.over, .slice b.A b.l.length b.c] cbT)
  have q0 := cb_cells w b 0 _ rfl
  have q1 := cb_cells w b 1 _ rfl
  have q2 := cb_cells w b 2 _ rfl
  have q3 := cb_cells w b 3 _ rfl
  obtain ⟨h1, h2, h3, h4⟩ := h
  have i1 : (b.l.length : Int) ≤ 30 := by omega
  have i2 : (s.length : Int) ≤ 60 := by omega
  have i3 : (b.name.size : Int) ≤ 100 := by omega
  have KC : Hid (Calls Try.prog 22 #[.slice (some ⟨(w.alloc (.cells #[.string b.name, .int .i64 b.seats, .int .i64 b.over, .slice b.A b.l.length b.c] cbT)).heap.size + 1, 0, none⟩) 1 1] (((w.alloc (.cells #[.string b.name, .int .i64 b.seats, .int .i64 b.over, .slice b.A b.l.length b.c] cbT)).alloc (.cells #[.string b.name, .int .i64 b.seats, .int .i64 b.over, .slice b.A b.l.length b.c] cbT)).alloc (.cells #[.string eqA, .slice (some ⟨(w.alloc (.cells #[.string b.name, .int .i64 b.seats, .int .i64 b.over, .slice b.A b.l.length b.c] cbT)).heap.size, 0, none⟩) 1 1] cfT)) fun e w' => ∃ A' c', e = .returned (.slice A' 0 c') ∧ Below w.heap.size w w') := Lib.hid ((chk_of b _ hd (hb.more hbA) h1).mono (by
    rintro e w' ⟨A', c', rfl, hb'⟩
    exact ⟨A', c', by rw [h4]; rfl, hbA.trans (hb'.mono hbA.size)⟩))
  clear h1 h2 h3 h4 hb hd
  go_enter Try.func8, Try.ntmps8
  go_upto_region 1 with fail
  generalize w.alloc (.cells #[.string b.name, .int .i64 b.seats, .int .i64 b.over, .slice b.A b.l.length b.c] cbT) = w5 at *
  go_wp2_with (go_at_call 22; refine KC.out.mono ?_; rintro e w6 ⟨A6, c6, rfl, hb6⟩)
  go_ret
  exact ⟨rfl, hb6⟩
end Go.Proofs.Ytnakdacnfbgpnaa
