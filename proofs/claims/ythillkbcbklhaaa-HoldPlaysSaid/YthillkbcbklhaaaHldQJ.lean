/- The calls of HoldPlays on the two sets side by side. -/
import Derived.Deep.QuietTactic
import Derived.BigQuiet
import Derived.Test.YthillkbcbklhaaaHldQI
namespace Go.Proofs.Ythillkbcbklhaaa
open Go.RowKit Go.Shelf Go.Maps Go.MapKept
set_option linter.unusedSimpArgs false
set_option linter.unusedVariables false

theorem SamH.refl (hs : List Hd) : SamH hs hs := SamH.of_map rfl
theorem SamH.trans {a b c : List Hd} (h : SamH a b) (k : SamH b c) : SamH a c := SamH.of_map (h.map.trans k.map)
theorem PS.rowM {W W' : World} {B mb R n : Nat} {hs ks : List Hd} (h : PS W B mb R n hs ks) (hb : But W W' (fun k => k = mb)) {Q : Nat → Prop} {α : Type} {sz : Nat} {enc : α → List Value} {A : Option Addr} {l : List α} (hz : ∀ x : α, ∃ u, (enc x)[0]? = some u) (hr : RowIn Q sz enc W A l) : RowIn Q sz enc W' A l :=
  row_but hr hz hb (fun b o x u _ hc => nomap_cell' hc h.p.map)
theorem PS.rowR {W W' : World} {B mb R n : Nat} {hs ks : List Hd} (h : PS W B mb R n hs ks) (hb : But W W' (fun k => k = R)) {Q : Nat → Prop} {α : Type} {sz : Nat} {enc : α → List Value} {A : Option Addr} {l : List α} (hz : ∀ x : α, ∃ u, (enc x)[0]? = some u) (hne : ∀ (x : α) A n c, (enc x)[0]? ≠ some (.slice A n c)) (hr : RowIn Q sz enc W A l) : RowIn Q sz enc W' A l := by
  obtain ⟨A2, c2, hR⟩ := h.r
  refine row_but hr hz hb (fun b o x u hu hc e => ?_)
  subst e
  have := cell_ref hR hc
  subst this
  exact hne x _ _ _ hu
theorem encD_ne (x : Lid) (A : Option Addr) (n c : Nat) : (encD x)[0]? ≠ some (.slice A n c) := by unfold encD; simp
theorem encH_ne (x : Hd) (A : Option Addr) (n c : Nat) : (encH x)[0]? ≠ some (.slice A n c) := by unfold encH; simp
/-- a list of holds that can be read whole -/
structure GoAt (W : World) (A : Option Addr) (zs : List Hd) : Prop where
  row : RowIn (fun _ => True) 5 encH W A zs
  legs : ∀ z ∈ zs, z.l.length ≤ 1000 ∧ RowIn (fun _ => True) 4 encD W z.A z.l
theorem GoAt.more {W W' : World} {A : Option Addr} {zs : List Hd} (h : GoAt W A zs) (hb : Below W.heap.size W W') : GoAt W' A zs := ⟨h.row.more hb, fun z hz => ⟨(h.legs z hz).1, (h.legs z hz).2.more hb⟩⟩
theorem GoAt.prog {W W' : World} {B mb R n : Nat} {hs ks : List Hd} (hP : PS W B mb R n hs ks) (hb : But W W' (fun k => k = mb)) {A : Option Addr} {zs : List Hd} (h : GoAt W A zs) : GoAt W' A zs := ⟨hP.rowM hb encH_hd h.row, fun z hz => ⟨(h.legs z hz).1, hP.rowM hb encD_hd (h.legs z hz).2⟩⟩
theorem GoAt.ref {W W' : World} {B mb R n : Nat} {hs ks : List Hd} (hP : PS W B mb R n hs ks) (hb : But W W' (fun k => k = R)) {A : Option Addr} {zs : List Hd} (h : GoAt W A zs) : GoAt W' A zs := ⟨hP.rowR hb encH_hd encH_ne h.row, fun z hz => ⟨(h.legs z hz).1, hP.rowR hb encD_hd encD_ne (h.legs z hz).2⟩⟩
theorem same_go {W : World} {A A' : Option Addr} {c c' : Nat} {zs ys : List Hd} (h : GoAt W A zs) (k : GoAt W A' ys) (he : SamH zs ys) (hl : zs.length ≤ 1000) :
    Calls Try.prog 18 #[.slice A zs.length c, .slice A' ys.length c'] W fun e w' => e = .returned (.bool true) ∧ Below W.heap.size W w' :=
  lsame_any A A' c c' zs ys W hl (h.row.rowL c) (k.row.rowL c') (fun z hz => ⟨(h.legs z hz).1, (h.legs z hz).2.rowL z.c⟩) (fun z hz => ⟨(k.legs z hz).1, (k.legs z hz).2.rowL z.c⟩) he.map
/-- what the program's call leaves -/
def PP (W : World) (B mb R n : Nat) (T ks : List Hd) : Prop := ∃ hs', PS W B mb R n hs' ks ∧ SamH hs' T
/-- what the specification's call leaves -/
def PQ (W : World) (B mb R n : Nat) (hs T : List Hd) : Prop := ∃ ks', PS W B mb R n hs ks' ∧ SamH T ks'
theorem put_ps {W : World} {B mb R n : Nat} {hs ks : List Hd} (hP : PS W B mb R n hs ks) (hn : n < 100000) (x : Hd) (hx : OkH x) (hxr : RowIn (fun k => k ≠ mb) 4 encD W x.A x.l) :
    Calls Try.prog 11 #[.pointer (some ⟨B, 0, none⟩), aggH x] W fun e w' => e = .returned (.int .i64 (putE hs x)) ∧ PP w' B mb R (n + 1) (putG hs x) ks ∧ But W w' (fun k => k = mb) :=
  (put_any x W hP.p hn hx hxr).mono (by
    rintro e w' ⟨rfl, ⟨A', c', h1⟩, hb⟩
    exact ⟨rfl, ⟨_, hP.prog hb h1, sam_putG (SamH.refl hs) rfl⟩, hb⟩)
theorem rput_ps {W : World} {B mb R n : Nat} {hs hs0 ks : List Hd} (hP : PS W B mb R n hs0 ks) (hsm : SamH hs ks) (hl : ks.length ≤ 999) (x : Hd) (hx : OkH x) (hxr : RowIn (fun k => k ≠ R) 4 encD W x.A x.l) :
    Calls Try.prog 12 #[.pointer (some ⟨R, 0, none⟩), aggH x] W fun e w' => e = .returned (.int .i64 (putE hs x)) ∧ PQ w' B mb R n hs0 (putG hs x) ∧ But W w' (fun k => k = R) :=
  (rput_any R ks x W hl hP.r hx hxr).mono (by
    rintro e w' ⟨rfl, h1, hb⟩
    exact ⟨by rw [sam_putE hsm (rfl : conH x = conH x)], ⟨_, hP.ref hb h1, sam_putG hsm rfl⟩, hb⟩)
theorem ext_ps {W : World} {B mb R n : Nat} {hs ks : List Hd} (hP : PS W B mb R n hs ks) (hn : n < 100000) (i m : Int) (hi : -9223372036854775808 ≤ i ∧ i ≤ 9223372036854775807) :
    Calls Try.prog 16 #[.pointer (some ⟨B, 0, none⟩), .int .i64 i, .int .i64 m] W fun e w' => e = .returned (.int .i64 (extE hs i m)) ∧ PP w' B mb R (n + 1) (extG hs i m) ks ∧ But W w' (fun k => k = mb) :=
  (ext_any i m W hP.p hn hi).mono (by
    rintro e w' ⟨rfl, h1, hb⟩
    exact ⟨rfl, ⟨_, hP.prog hb h1, SamH.refl _⟩, hb⟩)
theorem rext_ps {W : World} {B mb R n : Nat} {hs hs0 ks : List Hd} (hP : PS W B mb R n hs0 ks) (hsm : SamH hs ks) (hl : ks.length ≤ 999) (i m : Int) (hm : -9223372036854775808 ≤ m ∧ m ≤ 9223372036854775807) :
    Calls Try.prog 17 #[.pointer (some ⟨R, 0, none⟩), .int .i64 i, .int .i64 m] W fun e w' => e = .returned (.int .i64 (extE hs i m)) ∧ PQ w' B mb R n hs0 (extG hs i m) ∧ But W w' (fun k => k = R) :=
  (rext_any R ks i m W hl hP.r hm).mono (by
    rintro e w' ⟨rfl, h1, hb⟩
    exact ⟨by rw [sam_extE hsm], ⟨_, hP.ref hb h1, sam_extG hsm i m⟩, hb⟩)
theorem exp_ps {W : World} {B mb R n : Nat} {hs ks : List Hd} (hP : PS W B mb R n hs ks) (hn : n ≤ 1000) (m : Int) :
    Calls Try.prog 19 #[.pointer (some ⟨B, 0, none⟩), .int .i64 m] W fun e w' => (∃ A c, e = .returned (.slice A (goneH m hs).length c) ∧ GoAt w' A (goneH m hs)) ∧ PP w' B mb R n (restH m hs) ks ∧ But W w' (fun k => k = mb) :=
  (exp_any m W hP.p hn).mono (by
    unfold ExpR
    rintro e w' ⟨⟨A, c, rfl, _, hi⟩, h1, hb⟩
    exact ⟨⟨A, c, rfl, hi.imp (fun _ _ => trivial), fun z hz => by
      have := hP.p.ok z (by unfold goneH at hz; exact (List.mem_filter.1 hz).1)
      exact ⟨this.1.len, hP.rowM hb encD_hd (this.2.1.imp (fun _ _ => trivial))⟩⟩, ⟨_, hP.prog hb h1, SamH.refl _⟩, hb⟩)
theorem rexp_ps {W : World} {B mb R n : Nat} {hs hs0 ks : List Hd} (hP : PS W B mb R n hs0 ks) (hsm : SamH hs ks) (hl : ks.length ≤ 999) (m : Int) :
    Calls Try.prog 20 #[.pointer (some ⟨R, 0, none⟩), .int .i64 m] W fun e w' => (∃ A c ys, e = .returned (.slice A ys.length c) ∧ GoAt w' A ys ∧ SamH (goneH m hs) ys) ∧ PQ w' B mb R n hs0 (restH m hs) ∧ But W w' (fun k => k = R) :=
  (rexp_any R ks m W (by omega) hP.r).mono (by
    unfold RExpR
    rintro e w' ⟨v, rfl, hO, h1, hb⟩
    obtain ⟨A, c, rfl, _⟩ := own_form hO
    obtain ⟨_, hi⟩ := own_rowIn hO rfl
    obtain ⟨A2, c2, hR⟩ := hP.r
    exact ⟨⟨A, c, _, rfl, ⟨hi.imp (fun _ _ => trivial), fun z hz => by
      have := hR.ok z (by unfold goneH at hz; exact (List.mem_filter.1 hz).1)
      exact ⟨this.1.len, hP.rowR hb encD_hd encD_ne (this.2.1.imp (fun _ _ => trivial))⟩⟩, hsm.gone m⟩, ⟨_, hP.ref hb h1, hsm.rest m⟩, hb⟩)
abbrev zHd : Hd := ⟨0, none, 0, [], noB, 0, 0⟩
theorem fo_agg (o : Option Hd) : (o.map aggH).getD zH = aggH (o.getD zHd) := by cases o <;> rfl
theorem drop_ps {W : World} {B mb R n : Nat} {hs ks : List Hd} (hP : PS W B mb R n hs ks) (i : Int) (hi : -9223372036854775808 ≤ i ∧ i ≤ 9223372036854775807) :
    Calls Try.prog 13 #[.pointer (some ⟨B, 0, none⟩), .int .i64 i] W fun e w' => e = .returned (.tuple #[aggH ((findH hs i).getD zHd), .int .i64 (dropE hs i)]) ∧ PP w' B mb R n (dropH hs i) ks ∧ (((findH hs i).getD zHd).l.length ≤ 1000 ∧ RowIn (fun _ => True) 4 encD w' ((findH hs i).getD zHd).A ((findH hs i).getD zHd).l) ∧ But W w' (fun k => k = mb) :=
  (drop_any i W hP.p hi).mono (by
    rintro e w' ⟨rfl, h1, hb⟩
    refine ⟨by rw [fo_agg], ⟨_, hP.prog hb h1, SamH.refl _⟩, ?_, hb⟩
    cases hf : findH hs i with
    | none => exact ⟨Nat.zero_le _, .inl rfl⟩
    | some x =>
      have := hP.p.ok x (find_some hf).1
      exact ⟨this.1.len, hP.rowM hb encD_hd (this.2.1.imp (fun _ _ => trivial))⟩)
theorem rdrop_ps {W : World} {B mb R n : Nat} {hs hs0 ks : List Hd} (hP : PS W B mb R n hs0 ks) (hsm : SamH hs ks) (hl : ks.length ≤ 999) (i : Int) :
    Calls Try.prog 14 #[.pointer (some ⟨R, 0, none⟩), .int .i64 i] W fun e w' => e = .returned (.tuple #[aggH ((findH ks i).getD zHd), .int .i64 (dropE hs i)]) ∧ PQ w' B mb R n hs0 (dropH hs i) ∧ (((findH ks i).getD zHd).l.length ≤ 1000 ∧ RowIn (fun _ => True) 4 encD w' ((findH ks i).getD zHd).A ((findH ks i).getD zHd).l) ∧ conH ((findH hs i).getD zHd) = conH ((findH ks i).getD zHd) ∧ But W w' (fun k => k = R) := by
  obtain ⟨A2, c2, hR⟩ := hP.r
  refine (rdrop_any R A2 c2 ks i W (by omega) hR).mono ?_
  rintro e w' ⟨rfl, h1, hb⟩
  refine ⟨by rw [fo_agg, sam_dropE hsm], ⟨_, hP.ref hb h1, hsm.drop i⟩, ?_, ?_, hb⟩
  · cases hf : findH ks i with
    | none => exact ⟨Nat.zero_le _, .inl rfl⟩
    | some x =>
      have := hR.ok x (find_some hf).1
      exact ⟨this.1.len, hP.rowR hb encD_hd encD_ne (this.2.1.imp (fun _ _ => trivial))⟩
  · rcases hsm.find i with ⟨h2, h3⟩ | ⟨x, y, h2, h3, h4⟩
    · rw [h2, h3]
    · rw [h2, h3]; exact h4
theorem held_ps {W : World} {B mb R n : Nat} {hs ks : List Hd} (hP : PS W B mb R n hs ks) (hn : n ≤ 1000) (i : Lid) (s : ByteArray) :
    Calls Try.prog 21 #[.pointer (some ⟨B, 0, none⟩), aggD i, .string s] W fun e w' => e = .returned (.int .i64 (heldP i s hs)) ∧ Below W.heap.size W w' := held_any i s W hP.p (by omega)
theorem rheld_ps {W : World} {B mb R n : Nat} {hs hs0 ks : List Hd} (hP : PS W B mb R n hs0 ks) (hsm : SamH hs ks) (hl : ks.length ≤ 999) (i : Lid) (s : ByteArray) :
    Calls Try.prog 22 #[.pointer (some ⟨R, 0, none⟩), aggD i, .string s] W fun e w' => e = .returned (.int .i64 (heldP i s hs)) ∧ Below W.heap.size W w' := by
  obtain ⟨A2, c2, hR⟩ := hP.r
  rw [hsm.held i s]
  exact rheld_any R A2 c2 ks i s W (by omega) hR
theorem all_ps {W : World} {B mb R n : Nat} {hs ks : List Hd} (hP : PS W B mb R n hs ks) (hn : n ≤ 1000) :
    Calls Try.prog 23 #[.pointer (some ⟨B, 0, none⟩)] W fun e w' => (∃ A c zs, e = .returned (.slice A zs.length c) ∧ GoAt w' A zs ∧ SamH zs hs) ∧ PS w' B mb R n hs ks ∧ Below W.heap.size W w' :=
  (all_any W hP.p hn).mono (by
    unfold AllR
    rintro e w' ⟨A, c, zs, rfl, _, hc, hl, ⟨h20, hi⟩, hb⟩
    refine ⟨⟨A, c, zs, rfl, ⟨hi.imp (fun _ _ => trivial), fun z hz => ?_⟩, SamH.of_map hc⟩, hP.more hb, hb⟩
    refine ⟨?_, (rowIn_of (hl z hz)).imp (fun _ _ => trivial)⟩
    have h1 : conH z ∈ hs.map conH := hc ▸ List.mem_map.2 ⟨z, hz, rfl⟩
    obtain ⟨y, hy, e⟩ := List.mem_map.1 h1
    rw [← (con_of e).2.1]
    exact (hP.p.ok y hy).1.len)
theorem rall_ps {W : World} {B mb R n : Nat} {hs ks : List Hd} (hP : PS W B mb R n hs ks) :
    Calls Try.prog 24 #[.pointer (some ⟨R, 0, none⟩)] W fun e w' => (∃ A c, e = .returned (.slice A ks.length c) ∧ GoAt w' A ks) ∧ w' = W := by
  obtain ⟨A, c, hR⟩ := hP.r
  refine (rall_any R A c ks W hR).mono ?_
  rintro e w' ⟨rfl, rfl⟩
  exact ⟨⟨A, c, rfl, hR.rows.imp (fun _ _ => trivial), fun z hz => ⟨(hR.ok z hz).1.len, (hR.ok z hz).2.1.imp (fun _ _ => trivial)⟩⟩, rfl⟩
theorem new_ps (w w2 : World) {B mb : Nat} (hS : HldAt w2 B mb 0 []) :
    Calls Try.prog 10 #[] w2 fun e w' => e = .returned (.pointer (some ⟨w2.heap.size, 0, none⟩)) ∧ PS w' B mb w2.heap.size 0 [] [] ∧ Below w2.heap.size w2 w' :=
  (rnew_any w2).mono (by
    rintro e w' ⟨rfl, h1, hb⟩
    exact ⟨rfl, ⟨hS.more hb, _, _, h1⟩, hb⟩)
end Go.Proofs.Ythillkbcbklhaaa
