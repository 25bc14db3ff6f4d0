/- The law of Dropped returns true for every Slots and Handle that can be read; no condition. -/
import Derived.Test.YtgminepgldfdfaaW
import Derived.Deep.DeepCutAuto
namespace Go.Proofs.Ytgminepgldfdfaa
open Go.RowKit

theorem DropDoes.at_ {f : Nat} {ages : List Int} {used : List Bool} {s a : Int} {ages' : List Int} {used' : List Bool} {b : Bool} (h : DropDoes f ages used s a ages' used' b) (A A' : Option Addr) (c c' B : Nat) (w : World) (hB : B ≤ w.heap.size) (hr : RdS w B A A' ages used) :
    Calls Try.prog f #[.agg #[.slice A ages.length c, .slice A' used.length c'], .agg #[.int .i64 s, .int .i64 a]] w fun e w' => ∃ (D D' : Option Addr) (d d' : Nat),
      e = .returned (.tuple #[.agg #[.slice D ages'.length d, .slice D' used'.length d'], .bool b]) ∧ OwnS w' w.heap.size w'.heap.size D d D' d' ages' used' ∧ Kept 0 0 w w' := h A A' c c' B w hB hr

/-- The boxes of the law's own arguments, and all that was there before. -/
structure Env (w w' : World) (A A' : Option Addr) (c c' : Nat) (ages : List Int) (used : List Bool) (s a : Int) : Prop where
  k : Kept 0 0 w w'
  b : Blk w' w.heap.size 43 #[.slice A ages.length c, .slice A' used.length c']
  h : Blk w' (w.heap.size + 1) 51 #[.int .i64 s, .int .i64 a]
section
variable {w w' w'' : World} {A A' : Option Addr} {c c' : Nat} {ages : List Int} {used : List Bool} {s a : Int}
theorem Env.step (e : Env w w' A A' c c' ages used s a) {lo hi : Nat} (k : Kept lo hi w' w'') (hr : hi ≤ lo ∨ w.heap.size + 2 ≤ lo) : Env w w'' A A' c c' ages used s a :=
  ⟨e.k.trans2 k (by omega), e.b.kept k (by omega), e.h.kept k (by omega)⟩
theorem Env.lt (e : Env w w' A A' c c' ages used s a) : w.heap.size + 2 ≤ w'.heap.size := by have := e.h.lt; omega
theorem Env.cells (e : Env w w' A A' c c' ages used s a) : w'.cell? ⟨w.heap.size, 0, none⟩ = some (.slice A ages.length c) ∧ w'.cell? ⟨w.heap.size, 1, none⟩ = some (.slice A' used.length c') ∧ w'.cell? ⟨w.heap.size + 1, 0, none⟩ = some (.int .i64 s) ∧ w'.cell? ⟨w.heap.size + 1, 1, none⟩ = some (.int .i64 a) :=
  ⟨e.b.cell 0, e.b.cell 1, e.h.cell 0, e.h.cell 1⟩
theorem Env.alloc (e : Env w w' A A' c c' ages used s a) (o : Obj) : Env w (w'.alloc o) A A' c c' ages used s a := e.step (Kept.alloc0 _ _) (.inl (Nat.le_refl _))
theorem Env.drew (e : Env w w' A A' c c' ages used s a) : Env w w'.drew A A' c c' ages used s a := e.step (Kept.refl 0 0 _).drew (.inl (Nat.le_refl _))
theorem Env.far (e : Env w w' A A' c c' ages used s a) {p : Addr} (hp : w.heap.size + 2 ≤ p.block) (u : Value) : Env w (w'.setCell p u) A A' c c' ages used s a :=
  e.step (lo := p.block) (hi := p.block + 1) ((Kept.refl _ _ _).setCell (by omega) u) (.inr hp)
end

/-- A box that holds Slots in memory of the law's own: the box g, the rows in the blocks lo .. hi-1. -/
structure Box (w : World) (g lo hi : Nat) (D : Option Addr) (d : Nat) (D' : Option Addr) (d' : Nat) (ages : List Int) (used : List Bool) : Prop where
  x : Blk w g 31 #[.slice D ages.length d, .slice D' used.length d']
  o : OwnS w lo hi D d D' d' ages used
  out : g < lo ∨ hi ≤ g
  le : hi ≤ w.heap.size
section
variable {w w' : World} {g lo hi d d' : Nat} {D D' : Option Addr} {ages : List Int} {used : List Bool}
theorem Box.step (h : Box w g lo hi D d D' d' ages used) {lo' hi' : Nat} (k : Kept lo' hi' w w') (hr : hi' ≤ lo' ∨ ((g < lo' ∨ hi' ≤ g) ∧ (hi ≤ lo' ∨ hi' ≤ lo))) : Box w' g lo hi D d D' d' ages used :=
  ⟨h.x.kept k (by omega), h.o.kept k (by omega), h.out, Nat.le_trans h.le k.size⟩
theorem Box.rd (h : Box w g lo hi D d D' d' ages used) (h1 : ages.length ≤ 1048576) (h2 : used.length ≤ 1048576) : RdS w hi D D' ages used := h.o.rd h1 h2
theorem box_new {w : World} (ho : OwnS w lo w.heap.size D d D' d' ages used) : Box (w.alloc (.cells #[.slice D ages.length d, .slice D' used.length d'] 31)) w.heap.size lo w.heap.size D d D' d' ages used :=
  ⟨Blk.new _ _ _, ho.kept (Kept.alloc0 _ _) (.inl (Nat.le_refl _)), .inr (Nat.le_refl _), by simp⟩
theorem box_set {w : World} (hx : Blk w g 31 #[.slice none 0 0, .slice none 0 0]) (ho : OwnS w lo w.heap.size D d D' d' ages used) (hg : g < lo) :
    Box ((w.setCell ⟨g, 0, none⟩ (.slice D ages.length d)).setCell ⟨g, 1, none⟩ (.slice D' used.length d')) g lo w.heap.size D d D' d' ages used :=
  ⟨by simpa using (hx.set_ 0 (.slice D ages.length d)).set_ 1 (.slice D' used.length d'), ⟨(ho.i.far (.inl hg) _).far (.inl hg) _, (ho.b.far (.inl hg) _).far (.inl hg) _⟩, .inl hg, by simp⟩
end
/-- Some such box, from block 'base' on. -/
def BoxAt (w : World) (base : Nat) (p : Value) (ages : List Int) (used : List Bool) : Prop :=
  ∃ (g lo hi : Nat) (D D' : Option Addr) (d d' : Nat), p = .pointer (some ⟨g, 0, none⟩) ∧ base ≤ g ∧ base ≤ lo ∧ Box w g lo hi D d D' d' ages used

/-- What stands behind a statement that calls Dropped. -/
def PostD (w w1 : World) (A A' : Option Addr) (c c' : Nat) (ages : List Int) (used : List Bool) (s a : Int) (ages' : List Int) (used' : List Bool) (b : Bool) (p q : Value) (wx : World) : Prop :=
  Env w wx A A' c c' ages used s a ∧ Kept 0 0 w1 wx ∧ BoxAt wx w1.heap.size p ages' used' ∧ q = .bool b

theorem marks_rd {w : World} {lo hi n n' c c' : Nat} {k : Int} {A A' : Option Addr} (h1 : Own w lo hi 2 A n c ((marksI k n).map (Value.int .i64))) (h2 : Own w lo hi 4 A' n' c' ((marksB (k + n) n').map Value.bool)) (hn : n ≤ 1048576) (hn' : n' ≤ 1048576) : RdS w hi A A' (marksI k n) (marksB (k + n) n') :=
  ⟨h1.rd (by unfold maxLen; omega), h2.rd (by unfold maxLen; omega)⟩

set_option maxRecDepth 100000 in
set_option maxHeartbeats 6400000 in
theorem lawDrop_gen (ages : List Int) (used : List Bool) (s a : Int) (ages' : List Int) (used' : List Bool) (b : Bool) (hs : DropDoes 30 ages used s a ages' used' b) (hm : DropDoes 15 ages used s a ages' used' b) (l1 : ages'.length ≤ 64) (l2 : used'.length ≤ 64)
    (hz : ages.length + used.length ≤ 1048576) (A A' : Option Addr) (c c' : Nat) (w : World) (h : RdS w w.heap.size A A' ages used) :
    Calls Try.prog 8 #[.agg #[.slice A ages.length c, .slice A' used.length c'], .agg #[.int .i64 s, .int .i64 a]] w fun e w' => e = .returned (.bool true) ∧ Kept 0 0 w w' := by
  have H := Lib.hid h
  clear h
  go_enter Try.func8, Try.ntmps8
  go_wp2_with fail
  with_reducible refine (szS_ok _ _ _ _ _ _ _ hz).mono ?_
  rintro e w1 ⟨rfl, hk⟩
  have hp : ¬ ((1048576 : Int) - ages.length - used.length < 0) := by omega
  have E1 : Hid (Env w w1 A A' c c' ages used s a) := ⟨((Kept.alloc0 _ _).alloc _).trans hk, ((Blk.new _ _ _).alloc _).kept hk (by omega), by have := (Blk.new (w.alloc (.cells #[.slice A ages.length c, .slice A' used.length c'] 43)) 51 #[.int .i64 s, .int .i64 a]).kept hk (by omega); simpa using this⟩
  have y1 := E1.out.lt
  clear hk
  go_upto_region 5 with fail
  go_cut [6, 7] (fun p q wx => PostD w w1 A A' c c' ages used s a ages' used' b p q wx)
  case first =>
    go_region_held3 (fun w' => w'.cell? ⟨w.heap.size, 0, none⟩ = some (.slice A ages.length c) ∧ w'.cell? ⟨w.heap.size, 1, none⟩ = some (.slice A' used.length c') ∧ w'.cell? ⟨w.heap.size + 1, 0, none⟩ = some (.int .i64 s) ∧ w'.cell? ⟨w.heap.size + 1, 1, none⟩ = some (.int .i64 a))
      (first | exact E1.out.drew.cells | exact (E1.out.alloc _).drew.cells | exact E2.cells | exact (E2.alloc _).cells | exact E3.cells | exact (E3.alloc _).cells | exact E4.cells | exact (E4.alloc _).cells | exact ((E4.far (by first | omega | (simp; done) | (simp; omega)) _).far (by first | omega | (simp; done) | (simp; omega)) _).cells)
      (first
        | (go_at_call 21; refine (toS_any _ _ _ _ _ _ _ (by exact H.out.up (E1.out.k.trans (Kept.refl 0 0 w1).drew)) (by omega) (by omega)).mono ?_; rintro e w2 ⟨P, P', p2, p2', rfl, ho, hk⟩; have k2 : Kept 0 0 w1 w2 := (Kept.refl 0 0 w1).drew.trans hk; have E2 := E1.out.step k2 (.inl (Nat.le_refl _)); have R2 := ho.rd (by omega) (by omega); have z2 := k2.size; clear hk ho)
        | (go_at_call 21; refine (toS_any _ _ _ _ _ _ _ (by exact H.out.up (E1.out.k.trans (Kept.alloc0 w1 (.cells #[.slice none 0 0, .slice none 0 0] 31)).drew)) (by omega) (by omega)).mono ?_; rintro e w2 ⟨P, P', p2, p2', rfl, ho, hk⟩; have k2 : Kept 0 0 w1 w2 := (Kept.alloc0 w1 (.cells #[.slice none 0 0, .slice none 0 0] 31)).drew.trans hk; have E2 := E1.out.step k2 (.inl (Nat.le_refl _)); have R2 := ho.rd (by omega) (by omega); have z2 := k2.size; have X2 : Blk w2 w1.heap.size 31 #[.slice none 0 0, .slice none 0 0] := (Blk.new w1 31 _).drew.kept hk (by omega); clear hk ho)
        | (go_at_call 29; have _t := X2; refine (toHandle_any _ _ _).mono ?_; rintro e w3 ⟨rfl, hk⟩; have k3' : Kept 0 0 w2 w3 := hk; have k3 : Kept 0 0 w1 w3 := k2.trans k3'; have E3 := E2.step k3' (.inl (Nat.le_refl _)); have R3 := R2.up k3'; have z3 := k3'.size; have X3 : Blk w3 w1.heap.size 31 #[.slice none 0 0, .slice none 0 0] := X2.kept hk (by omega); have xl : w1.heap.size < w3.heap.size := X3.lt; have xb : w1.heap.size ≤ w1.heap.size := Nat.le_refl _; clear hk)
        | (go_at_call 29; refine (toHandle_any _ _ _).mono ?_; rintro e w3 ⟨rfl, hk⟩; have k3' : Kept 0 0 w2 w3 := (Kept.alloc0 w2 _).trans hk; have k3 : Kept 0 0 w1 w3 := k2.trans k3'; have E3 := E2.step k3' (.inl (Nat.le_refl _)); have R3 := R2.up k3'; have z3 := k3'.size; have X3 : Blk w3 w2.heap.size 31 #[.slice none 0 0, .slice none 0 0] := (Blk.new w2 31 _).kept hk (by omega); have xl : w2.heap.size < w3.heap.size := X3.lt; have xb : w1.heap.size ≤ w2.heap.size := z2; clear hk)
        | (go_at_call 29; refine (toHandle_any _ _ _).mono ?_; rintro e w3 ⟨rfl, hk⟩; have k3' : Kept 0 0 w2 w3 := hk; have k3 : Kept 0 0 w1 w3 := k2.trans k3'; have E3 := E2.step k3' (.inl (Nat.le_refl _)); have R3 := R2.up k3'; have z3 := k3'.size; clear hk)
        | (go_at_call 30; have _t := X3; refine (hs.at_ _ _ _ _ w3.heap.size _ (Nat.le_refl _) (by exact R3)).mono ?_; rintro e w4 ⟨G, G', g4, g4', rfl, ho, hk⟩; have k4' : Kept 0 0 w3 w4 := hk; have k4 : Kept 0 0 w1 w4 := k3.trans k4'; have E4 := E3.step k4' (.inl (Nat.le_refl _)); have z4 := k4'.size; have O4 : OwnS w4 w3.heap.size w4.heap.size G g4 G' g4' ages' used' := (by simpa using ho); have X4 := X3.kept hk (by omega); have q0 := X4.cell 0; have q1 := X4.cell 1; have q2 := X4.frozen 0; have q3 := X4.frozen 1; clear hk ho)
        | (go_at_call 30; refine (hs.at_ _ _ _ _ w3.heap.size _ (by simp) (by exact R3.kept (Nat.le_refl _) (Kept.alloc0 _ _) (.inl (Nat.le_refl _)))).mono ?_; rintro e w4 ⟨G, G', g4, g4', rfl, ho, hk⟩; have k4' : Kept 0 0 w3 w4 := (Kept.alloc0 w3 _).trans hk; have k4 : Kept 0 0 w1 w4 := k3.trans k4'; have E4 := E3.step k4' (.inl (Nat.le_refl _)); have z4 := k4'.size; have O4 : OwnS w4 (w3.heap.size + 1) w4.heap.size G g4 G' g4' ages' used' := (by simpa using ho); have X4 : Blk w4 w3.heap.size 31 #[.slice none 0 0, .slice none 0 0] := (Blk.new w3 31 _).kept hk (by omega); have xl : w3.heap.size < w3.heap.size + 1 := Nat.lt_succ_self _; have xb : w1.heap.size ≤ w3.heap.size := k3.size; have q0 := X4.cell 0; have q1 := X4.cell 1; have q2 := X4.frozen 0; have q3 := X4.frozen 1; clear hk ho)
        | (go_at_call 30; refine (hs.at_ _ _ _ _ w3.heap.size _ (Nat.le_refl _) (by exact R3)).mono ?_; rintro e w4 ⟨G, G', g4, g4', rfl, ho, hk⟩; have k4' : Kept 0 0 w3 w4 := hk; have k4 : Kept 0 0 w1 w4 := k3.trans k4'; have E4 := E3.step k4' (.inl (Nat.le_refl _)); have z4 := k4'.size; have O4 : OwnS w4 w3.heap.size w4.heap.size G g4 G' g4' ages' used' := (by simpa using ho); clear hk ho))
    all_goals (go_wp2_with fail; go_meet)
    all_goals first
      | exact ⟨E4.alloc _, k4.alloc _, ⟨_, _, _, _, _, _, _, rfl, by omega, by omega, box_new O4⟩, rfl⟩
      | exact ⟨(E4.far (by first | omega | (simp; done) | (simp; omega)) _).far (by first | omega | (simp; done) | (simp; omega)) _, (k4.setCell (.inl (by first | omega | (simp; done) | (simp; omega))) _).setCell (.inl (by first | omega | (simp; done) | (simp; omega))) _, ⟨_, _, _, _, _, _, _, rfl, xb, by omega, box_set X4 O4 xl⟩, rfl⟩
  case rest =>
    obtain ⟨w5, rfl⟩ : ∃ w5 : World, w5 = wc := ⟨_, rfl⟩
    obtain ⟨E5, k5, ⟨gw, wl, wh, D0, D0', v0, v0', rfl, gb5, lb5, X5⟩, rfl⟩ := hcut
    have y5 := E5.lt
    have gw5 := X5.x.lt
    have wh5 := X5.le
    have EE := Lib.hid E5
    have BW := Lib.hid X5
    clear E5 X5 k5 E1
    have c0 := EE.out.b.cell 0
    have c1 := EE.out.b.cell 1
    go_wp2_with fail
    clear c0 c1
    with_reducible refine (toS_any _ _ _ _ _ _ _ (by exact H.out.up EE.out.k) (by omega) (by omega)).mono ?_
    rintro e w6 ⟨X, X', x, x', rfl, ho, hk⟩
    have z6 := hk.size
    have E6 := Lib.hid (EE.out.step hk (.inl (Nat.le_refl _)))
    have BW6 := Lib.hid (BW.out.step hk (.inl (Nat.le_refl _)))
    have O6 := Lib.hid ho
    clear hk ho EE BW
    go_upto_region 7 with fail
    obtain ⟨V, hV⟩ : ∃ V, V = w6.alloc (.cells #[.slice X ages.length x, .slice X' used.length x'] 31) := ⟨_, rfl⟩
    have zV : V.heap.size = w6.heap.size + 1 := by rw [hV]; simp
    have kV : Kept 0 0 w6 V := by rw [hV]; exact Kept.alloc0 _ _
    have BXV : Hid (Box V w6.heap.size w5.heap.size w6.heap.size X x X' x' ages used) := by show Box _ _ _ _ _ _ _ _ _ _; rw [hV]; exact box_new O6.out
    have EV := Lib.hid (E6.out.step kV (.inl (Nat.le_refl _)))
    have BWV := Lib.hid (BW6.out.step kV (.inl (Nat.le_refl _)))
    rw [← hV]
    have zV1 : w6.heap.size < V.heap.size := by omega
    have zV2 : V.heap.size ≤ w6.heap.size + 1 := by omega
    clear hV kV E6 BW6 O6 zV
    go_cut [9, 10] (fun p q wx => PostD w V A A' c c' ages used s a ages' used' b p q wx)
    case first =>
      go_region_held3 (fun w' => w'.cell? ⟨w6.heap.size, 0, none⟩ = some (.slice X ages.length x) ∧ w'.cell? ⟨w6.heap.size, 1, none⟩ = some (.slice X' used.length x') ∧ w'.cell? ⟨w.heap.size + 1, 0, none⟩ = some (.int .i64 s) ∧ w'.cell? ⟨w.heap.size + 1, 1, none⟩ = some (.int .i64 a))
        (first | exact ⟨BXV.out.x.drew.cell 0, BXV.out.x.drew.cell 1, EV.out.drew.h.cell 0, EV.out.drew.h.cell 1⟩ | exact ⟨(BXV.out.x.alloc _).drew.cell 0, (BXV.out.x.alloc _).drew.cell 1, (EV.out.alloc _).drew.h.cell 0, (EV.out.alloc _).drew.h.cell 1⟩ | exact ⟨Y3.cell 0, Y3.cell 1, E3.h.cell 0, E3.h.cell 1⟩ | exact ⟨(Y3.alloc _).cell 0, (Y3.alloc _).cell 1, (E3.alloc _).h.cell 0, (E3.alloc _).h.cell 1⟩ | exact ⟨Y4.cell 0, Y4.cell 1, E4.h.cell 0, E4.h.cell 1⟩ | exact ⟨(Y4.alloc _).cell 0, (Y4.alloc _).cell 1, (E4.alloc _).h.cell 0, (E4.alloc _).h.cell 1⟩ | exact ⟨((Y4.far (by first | omega | (simp; done) | (simp; omega)) _).far (by first | omega | (simp; done) | (simp; omega)) _).cell 0, ((Y4.far (by first | omega | (simp; done) | (simp; omega)) _).far (by first | omega | (simp; done) | (simp; omega)) _).cell 1, ((E4.far (by first | omega | (simp; done) | (simp; omega)) _).far (by first | omega | (simp; done) | (simp; omega)) _).h.cell 0, ((E4.far (by first | omega | (simp; done) | (simp; omega)) _).far (by first | omega | (simp; done) | (simp; omega)) _).h.cell 1⟩)
        (first
          | (go_at_call 29; refine (toHandle_any _ _ _).mono ?_; rintro e w3 ⟨rfl, hk⟩; have k3 : Kept 0 0 V w3 := (Kept.refl 0 0 V).drew.trans hk; have E3 := EV.out.step k3 (.inl (Nat.le_refl _)); have Y3 := BXV.out.x.kept k3 (by omega); have R3 : RdS w3 w3.heap.size X X' ages used := ((BXV.out.rd (by omega) (by omega)).kept BXV.out.le k3 (.inl (Nat.le_refl _))).wide (Nat.le_trans BXV.out.le k3.size); have z3 := k3.size; clear hk)
          | (go_at_call 29; refine (toHandle_any _ _ _).mono ?_; rintro e w3 ⟨rfl, hk⟩; have k3 : Kept 0 0 V w3 := (Kept.alloc0 V (.cells #[.slice none 0 0, .slice none 0 0] 31)).drew.trans hk; have E3 := EV.out.step k3 (.inl (Nat.le_refl _)); have Y3 := BXV.out.x.kept k3 (by omega); have R3 : RdS w3 w3.heap.size X X' ages used := ((BXV.out.rd (by omega) (by omega)).kept BXV.out.le k3 (.inl (Nat.le_refl _))).wide (Nat.le_trans BXV.out.le k3.size); have z3 := k3.size; have X3 : Blk w3 V.heap.size 31 #[.slice none 0 0, .slice none 0 0] := (Blk.new V 31 _).drew.kept hk (by omega); have xl : V.heap.size < w3.heap.size := X3.lt; have xb : V.heap.size ≤ V.heap.size := Nat.le_refl _; clear hk)
          | (go_at_call 15; have _t := X3; refine (hm.at_ _ _ _ _ w3.heap.size _ (Nat.le_refl _) (by exact R3)).mono ?_; rintro e w4 ⟨G, G', g4, g4', rfl, ho, hk⟩; have k4' : Kept 0 0 w3 w4 := hk; have k4 : Kept 0 0 V w4 := k3.trans k4'; have E4 := E3.step k4' (.inl (Nat.le_refl _)); have Y4 := Y3.kept k4' (by omega); have z4 := k4'.size; have O4 : OwnS w4 w3.heap.size w4.heap.size G g4 G' g4' ages' used' := (by simpa using ho); have X4 := X3.kept hk (by omega); have q0 := X4.cell 0; have q1 := X4.cell 1; have q2 := X4.frozen 0; have q3 := X4.frozen 1; clear hk ho)
          | (go_at_call 15; refine (hm.at_ _ _ _ _ w3.heap.size _ (by simp) (by exact R3.kept (Nat.le_refl _) (Kept.alloc0 _ _) (.inl (Nat.le_refl _)))).mono ?_; rintro e w4 ⟨G, G', g4, g4', rfl, ho, hk⟩; have k4' : Kept 0 0 w3 w4 := (Kept.alloc0 w3 _).trans hk; have k4 : Kept 0 0 V w4 := k3.trans k4'; have E4 := E3.step k4' (.inl (Nat.le_refl _)); have Y4 := Y3.kept k4' (by omega); have z4 := k4'.size; have O4 : OwnS w4 (w3.heap.size + 1) w4.heap.size G g4 G' g4' ages' used' := (by simpa using ho); have X4 : Blk w4 w3.heap.size 31 #[.slice none 0 0, .slice none 0 0] := (Blk.new w3 31 _).kept hk (by omega); have xl : w3.heap.size < w3.heap.size + 1 := Nat.lt_succ_self _; have xb : V.heap.size ≤ w3.heap.size := k3.size; have q0 := X4.cell 0; have q1 := X4.cell 1; have q2 := X4.frozen 0; have q3 := X4.frozen 1; clear hk ho)
          | (go_at_call 15; refine (hm.at_ _ _ _ _ w3.heap.size _ (Nat.le_refl _) (by exact R3)).mono ?_; rintro e w4 ⟨G, G', g4, g4', rfl, ho, hk⟩; have k4' : Kept 0 0 w3 w4 := hk; have k4 : Kept 0 0 V w4 := k3.trans k4'; have E4 := E3.step k4' (.inl (Nat.le_refl _)); have Y4 := Y3.kept k4' (by omega); have z4 := k4'.size; have O4 : OwnS w4 w3.heap.size w4.heap.size G g4 G' g4' ages' used' := (by simpa using ho); clear hk ho))
      all_goals (go_wp2_with fail; go_meet)
      all_goals first
        | exact ⟨E4.alloc _, k4.alloc _, ⟨_, _, _, _, _, _, _, rfl, by omega, by omega, box_new O4⟩, rfl⟩
        | exact ⟨(E4.far (by first | omega | (simp; done) | (simp; omega)) _).far (by first | omega | (simp; done) | (simp; omega)) _, (k4.setCell (.inl (by first | omega | (simp; done) | (simp; omega))) _).setCell (.inl (by first | omega | (simp; done) | (simp; omega))) _, ⟨_, _, _, _, _, _, _, rfl, xb, by omega, box_set X4 O4 xl⟩, rfl⟩
    case rest =>
      obtain ⟨w7, rfl⟩ : ∃ w7 : World, w7 = wc := ⟨_, rfl⟩
      obtain ⟨E7', k7, ⟨gg, gl, gh, G, G', g1, g1', rfl, gb7, lb7, X7⟩, rfl⟩ := hcut
      have z7 := k7.size
      have gg7 := X7.x.lt
      have gh7 := X7.le
      have go7 := X7.out
      have hbb : (b == b) = true := by simp
      have E7 := Lib.hid E7'
      have BW7 := Lib.hid (BWV.out.step k7 (.inl (Nat.le_refl _)))
      have BX7 := Lib.hid (BXV.out.step k7 (.inl (Nat.le_refl _)))
      have BG7 := Lib.hid X7
      clear E7' k7 X7 EV BWV BXV
      have c0 := BG7.out.x.cell 0
      have c1 := BG7.out.x.cell 1
      have c2 := BW7.out.x.cell 0
      have c3 := BW7.out.x.cell 1
      go_wp2_with fail
      clear c0 c1 c2 c3
      with_reducible refine (eqS_any _ _ _ _ _ _ _ _ _ _ _ _ gh wh _ BG7.out.le BW7.out.le (by exact BG7.out.rd (by omega) (by omega)) (by exact BW7.out.rd (by omega) (by omega))).mono ?_
      rintro e w8 ⟨rfl, hk⟩
      have z8 := hk.size
      have E8 := Lib.hid (E7.out.step hk (.inl (Nat.le_refl _)))
      have BW8 := Lib.hid (BW7.out.step hk (.inl (Nat.le_refl _)))
      have BX8 := Lib.hid (BX7.out.step hk (.inl (Nat.le_refl _)))
      have BG8 := Lib.hid (BG7.out.step hk (.inl (Nat.le_refl _)))
      clear hk E7 BW7 BX7 BG7
      have c0 := E8.out.b.cell 0
      have c1 := E8.out.b.cell 1
      have c2 := BX8.out.x.cell 0
      have c3 := BX8.out.x.cell 1
      go_wp2_with fail
      go_region_held3 (fun w' => w'.cell? ⟨w.heap.size, 0, none⟩ = some (.slice A ages.length c) ∧ w'.cell? ⟨w.heap.size, 1, none⟩ = some (.slice A' used.length c') ∧ w'.cell? ⟨w6.heap.size, 0, none⟩ = some (.slice X ages.length x) ∧ w'.cell? ⟨w6.heap.size, 1, none⟩ = some (.slice X' used.length x')) (first | exact ⟨c0, c1, c2, c3⟩ | exact ⟨d0, d1, d2, d3⟩ | exact ⟨f0, f1, f2, f3⟩)
        (first
          | (go_at_call 21; refine (toS_any _ _ _ _ _ _ _ (by exact H.out.up E8.out.k.drew) (by omega) (by omega)).mono ?_; rintro e w9 ⟨Y, Y', y, y', rfl, ho6, hk6⟩; have k9 : Kept 0 0 w8 w9 := (Kept.refl 0 0 w8).drew.trans hk6; have E9 := E8.out.step k9 (.inl (Nat.le_refl _)); have BX9 := BX8.out.step k9 (.inl (Nat.le_refl _)); have Y9 := ho6.rd (by omega) (by omega); clear hk6 ho6; have d0 := E9.b.cell 0; have d1 := E9.b.cell 1; have d2 := BX9.x.cell 0; have d3 := BX9.x.cell 1)
          | (go_at_call 22; refine (eqS_any _ _ _ _ _ _ _ _ _ _ _ _ w6.heap.size w9.heap.size _ (by exact BX9.le) (Nat.le_refl _) (by exact BX9.rd (by omega) (by omega)) (by exact Y9)).mono ?_; rintro e wq ⟨rfl, hk7⟩; have kq : Kept 0 0 w8 wq := k9.trans hk7; have Eq := E9.step hk7 (.inl (Nat.le_refl _)); have BXq := BX9.step hk7 (.inl (Nat.le_refl _)); clear hk7; have f0 := Eq.b.cell 0; have f1 := Eq.b.cell 1; have f2 := BXq.x.cell 0; have f3 := BXq.x.cell 1))
      clear c0 c1 c2 c3 d0 d1 d2 d3 f0 f1 f2 f3 E9 BX9 Y9 k9
      have zq := kq.size
      have E10 := Lib.hid Eq
      have BX10 := Lib.hid BXq
      have BW10 := Lib.hid (BW8.out.step kq (.inl (Nat.le_refl _)))
      have BG10 := Lib.hid (BG8.out.step kq (.inl (Nat.le_refl _)))
      clear Eq BXq kq E8 BW8 BX8 BG8
      have c0 := BX10.out.x.cell 0
      have c1 := BX10.out.x.cell 1
      go_wp2_with fail
      clear c0 c1
      with_reducible refine (markS_any _ _ _ _ _ _ _ w5.heap.size w6.heap.size _ (by omega) (by exact BX10.out.o) (by omega) (by omega) (by omega) (by omega)).mono ?_
      rintro e w11 ⟨rfl, m1, m2, hk⟩
      have z11 := hk.size
      have E11 := Lib.hid (E10.out.step hk (by omega))
      have BW11 := Lib.hid (BW10.out.step hk (by omega))
      have BG11 := Lib.hid (BG10.out.step hk (by omega))
      clear hk m1 m2 E10 BX10 BW10 BG10
      have p11 : decide ((1 : Int) + ages.length + used.length < 0) = false := by simp; omega
      have c0 := BG11.out.x.cell 0
      have c1 := BG11.out.x.cell 1
      have c2 := BW11.out.x.cell 0
      have c3 := BW11.out.x.cell 1
      go_wp2_with fail
      clear c0 c1 c2 c3
      with_reducible refine (eqS_any _ _ _ _ _ _ _ _ _ _ _ _ gh wh _ BG11.out.le BW11.out.le (by exact BG11.out.rd (by omega) (by omega)) (by exact BW11.out.rd (by omega) (by omega))).mono ?_
      rintro e w12 ⟨rfl, hk⟩
      have z12 := hk.size
      have E12 := Lib.hid (E11.out.step hk (.inl (Nat.le_refl _)))
      have BW12 := Lib.hid (BW11.out.step hk (.inl (Nat.le_refl _)))
      have BG12 := Lib.hid (BG11.out.step hk (.inl (Nat.le_refl _)))
      clear hk E11 BW11 BG11
      have c0 := BG12.out.x.cell 0
      have c1 := BG12.out.x.cell 1
      go_wp2_with fail
      clear c0 c1
      with_reducible refine (markS_any _ _ _ _ _ _ _ gl gh _ BG12.out.le (by exact BG12.out.o) (by omega) (by omega) (by omega) (by omega)).mono ?_
      rintro e w13 ⟨rfl, m1, m2, hk⟩
      have z13 := hk.size
      have M13 := Lib.hid (marks_rd m1 m2 (by omega) (by omega))
      have E13 := Lib.hid (E12.out.step hk (by omega))
      have BW13 := Lib.hid (BW12.out.step hk (by omega))
      have X13 := Lib.hid (BG12.out.x.kept hk (by omega))
      clear hk m1 m2 E12 BW12 BG12
      have c0 := X13.out.cell 0
      have c1 := X13.out.cell 1
      go_wp2_with fail
      clear c0 c1
      with_reducible refine (heldS_any _ _ _ _ _ _ _ gh _ (by omega) (by exact M13.out) (by omega) (by omega) (by omega) (by omega)).mono ?_
      rintro e w14 ⟨rfl, hk⟩
      have z14 := hk.size
      have p14 : 0 ≤ (1 : Int) + ages'.length + used'.length := by omega
      have M14 := Lib.hid (M13.out.kept (by omega) hk (.inl (Nat.le_refl _)))
      have E14 := Lib.hid (E13.out.step hk (.inl (Nat.le_refl _)))
      have BW14 := Lib.hid (BW13.out.step hk (.inl (Nat.le_refl _)))
      have X14 := Lib.hid (X13.out.kept hk (.inl (Nat.le_refl _)))
      clear hk M13 E13 BW13 X13
      go_upto_region 24 with fail
      go_cut [14, 15] (fun p q wx => PostD w w14 A A' c c' ages used s a ages' used' b p q wx)
      case first =>
        go_region_held3 (fun w' => w'.cell? ⟨w.heap.size, 0, none⟩ = some (.slice A ages.length c) ∧ w'.cell? ⟨w.heap.size, 1, none⟩ = some (.slice A' used.length c') ∧ w'.cell? ⟨w.heap.size + 1, 0, none⟩ = some (.int .i64 s) ∧ w'.cell? ⟨w.heap.size + 1, 1, none⟩ = some (.int .i64 a))
          (first | exact E14.out.drew.cells | exact (E14.out.alloc _).drew.cells | exact E2.cells | exact (E2.alloc _).cells | exact E3.cells | exact (E3.alloc _).cells | exact E4.cells | exact (E4.alloc _).cells | exact ((E4.far (by first | omega | (simp; done) | (simp; omega)) _).far (by first | omega | (simp; done) | (simp; omega)) _).cells)
          (first
            | (go_at_call 21; refine (toS_any _ _ _ _ _ _ _ (by exact H.out.up (E14.out.k.trans (Kept.refl 0 0 w14).drew)) (by omega) (by omega)).mono ?_; rintro e w2 ⟨P, P', p2, p2', rfl, ho, hk⟩; have k2 : Kept 0 0 w14 w2 := (Kept.refl 0 0 w14).drew.trans hk; have E2 := E14.out.step k2 (.inl (Nat.le_refl _)); have R2 := ho.rd (by omega) (by omega); have z2 := k2.size; clear hk ho)
            | (go_at_call 21; refine (toS_any _ _ _ _ _ _ _ (by exact H.out.up (E14.out.k.trans (Kept.alloc0 w14 (.cells #[.slice none 0 0, .slice none 0 0] 31)).drew)) (by omega) (by omega)).mono ?_; rintro e w2 ⟨P, P', p2, p2', rfl, ho, hk⟩; have k2 : Kept 0 0 w14 w2 := (Kept.alloc0 w14 (.cells #[.slice none 0 0, .slice none 0 0] 31)).drew.trans hk; have E2 := E14.out.step k2 (.inl (Nat.le_refl _)); have R2 := ho.rd (by omega) (by omega); have z2 := k2.size; have X2 : Blk w2 w14.heap.size 31 #[.slice none 0 0, .slice none 0 0] := (Blk.new w14 31 _).drew.kept hk (by omega); clear hk ho)
            | (go_at_call 29; have _t := X2; refine (toHandle_any _ _ _).mono ?_; rintro e w3 ⟨rfl, hk⟩; have k3' : Kept 0 0 w2 w3 := hk; have k3 : Kept 0 0 w14 w3 := k2.trans k3'; have E3 := E2.step k3' (.inl (Nat.le_refl _)); have R3 := R2.up k3'; have z3 := k3'.size; have X3 : Blk w3 w14.heap.size 31 #[.slice none 0 0, .slice none 0 0] := X2.kept hk (by omega); have xl : w14.heap.size < w3.heap.size := X3.lt; have xb : w14.heap.size ≤ w14.heap.size := Nat.le_refl _; clear hk)
            | (go_at_call 29; refine (toHandle_any _ _ _).mono ?_; rintro e w3 ⟨rfl, hk⟩; have k3' : Kept 0 0 w2 w3 := (Kept.alloc0 w2 _).trans hk; have k3 : Kept 0 0 w14 w3 := k2.trans k3'; have E3 := E2.step k3' (.inl (Nat.le_refl _)); have R3 := R2.up k3'; have z3 := k3'.size; have X3 : Blk w3 w2.heap.size 31 #[.slice none 0 0, .slice none 0 0] := (Blk.new w2 31 _).kept hk (by omega); have xl : w2.heap.size < w3.heap.size := X3.lt; have xb : w14.heap.size ≤ w2.heap.size := z2; clear hk)
            | (go_at_call 29; refine (toHandle_any _ _ _).mono ?_; rintro e w3 ⟨rfl, hk⟩; have k3' : Kept 0 0 w2 w3 := hk; have k3 : Kept 0 0 w14 w3 := k2.trans k3'; have E3 := E2.step k3' (.inl (Nat.le_refl _)); have R3 := R2.up k3'; have z3 := k3'.size; clear hk)
            | (go_at_call 15; have _t := X3; refine (hm.at_ _ _ _ _ w3.heap.size _ (Nat.le_refl _) (by exact R3)).mono ?_; rintro e w4 ⟨G, G', g4, g4', rfl, ho, hk⟩; have k4' : Kept 0 0 w3 w4 := hk; have k4 : Kept 0 0 w14 w4 := k3.trans k4'; have E4 := E3.step k4' (.inl (Nat.le_refl _)); have z4 := k4'.size; have O4 : OwnS w4 w3.heap.size w4.heap.size G g4 G' g4' ages' used' := (by simpa using ho); have X4 := X3.kept hk (by omega); have q0 := X4.cell 0; have q1 := X4.cell 1; have q2 := X4.frozen 0; have q3 := X4.frozen 1; clear hk ho)
            | (go_at_call 15; refine (hm.at_ _ _ _ _ w3.heap.size _ (by simp) (by exact R3.kept (Nat.le_refl _) (Kept.alloc0 _ _) (.inl (Nat.le_refl _)))).mono ?_; rintro e w4 ⟨G, G', g4, g4', rfl, ho, hk⟩; have k4' : Kept 0 0 w3 w4 := (Kept.alloc0 w3 _).trans hk; have k4 : Kept 0 0 w14 w4 := k3.trans k4'; have E4 := E3.step k4' (.inl (Nat.le_refl _)); have z4 := k4'.size; have O4 : OwnS w4 (w3.heap.size + 1) w4.heap.size G g4 G' g4' ages' used' := (by simpa using ho); have X4 : Blk w4 w3.heap.size 31 #[.slice none 0 0, .slice none 0 0] := (Blk.new w3 31 _).kept hk (by omega); have xl : w3.heap.size < w3.heap.size + 1 := Nat.lt_succ_self _; have xb : w14.heap.size ≤ w3.heap.size := k3.size; have q0 := X4.cell 0; have q1 := X4.cell 1; have q2 := X4.frozen 0; have q3 := X4.frozen 1; clear hk ho)
            | (go_at_call 15; refine (hm.at_ _ _ _ _ w3.heap.size _ (Nat.le_refl _) (by exact R3)).mono ?_; rintro e w4 ⟨G, G', g4, g4', rfl, ho, hk⟩; have k4' : Kept 0 0 w3 w4 := hk; have k4 : Kept 0 0 w14 w4 := k3.trans k4'; have E4 := E3.step k4' (.inl (Nat.le_refl _)); have z4 := k4'.size; have O4 : OwnS w4 w3.heap.size w4.heap.size G g4 G' g4' ages' used' := (by simpa using ho); clear hk ho))
        all_goals (go_wp2_with fail; go_meet)
        all_goals first
          | exact ⟨E4.alloc _, k4.alloc _, ⟨_, _, _, _, _, _, _, rfl, by omega, by omega, box_new O4⟩, rfl⟩
          | exact ⟨(E4.far (by first | omega | (simp; done) | (simp; omega)) _).far (by first | omega | (simp; done) | (simp; omega)) _, (k4.setCell (.inl (by first | omega | (simp; done) | (simp; omega))) _).setCell (.inl (by first | omega | (simp; done) | (simp; omega))) _, ⟨_, _, _, _, _, _, _, rfl, xb, by omega, box_set X4 O4 xl⟩, rfl⟩
      case rest =>
        obtain ⟨w15, rfl⟩ : ∃ w15 : World, w15 = wc := ⟨_, rfl⟩
        obtain ⟨E15', k15, ⟨gy, yl, yh, Y, Y', y1, y1', rfl, gb15, lb15, X15'⟩, rfl⟩ := hcut
        have z15 := k15.size
        have E15 := Lib.hid E15'
        have BY15 := Lib.hid X15'
        have BW15 := Lib.hid (BW14.out.step k15 (.inl (Nat.le_refl _)))
        have M15 := Lib.hid (M14.out.kept (by omega) k15 (.inl (Nat.le_refl _)))
        have X15 := Lib.hid (X14.out.kept k15 (.inl (Nat.le_refl _)))
        clear E15' k15 X15' E14 BW14 M14 X14
        have c0 := BY15.out.x.cell 0
        have c1 := BY15.out.x.cell 1
        have c2 := BW15.out.x.cell 0
        have c3 := BW15.out.x.cell 1
        go_wp2_with fail
        clear c0 c1 c2 c3
        with_reducible refine (eqS_any _ _ _ _ _ _ _ _ _ _ _ _ yh wh _ BY15.out.le BW15.out.le (by exact BY15.out.rd (by omega) (by omega)) (by exact BW15.out.rd (by omega) (by omega))).mono ?_
        rintro e w16 ⟨rfl, hk⟩
        have z16 := hk.size
        have E16 := Lib.hid (E15.out.step hk (.inl (Nat.le_refl _)))
        have M16 := Lib.hid (M15.out.kept (by omega) hk (.inl (Nat.le_refl _)))
        have X16 := Lib.hid (X15.out.kept hk (.inl (Nat.le_refl _)))
        clear hk E15 BW15 M15 X15 BY15
        have c0 := X16.out.cell 0
        have c1 := X16.out.cell 1
        go_wp2_with fail
        clear c0 c1
        with_reducible refine (heldS_any _ _ _ _ _ _ _ gh _ (by omega) (by exact M16.out) (by omega) (by omega) (by omega) (by omega)).mono ?_
        rintro e w17 ⟨rfl, hk⟩
        have K17 := Lib.hid (E16.out.k.trans hk)
        clear hk E16 M16 X16
        go_wp2
        go_ret
        exact ⟨rfl, K17.out⟩

set_option maxHeartbeats 800000 in
theorem lawDropped (ages : List Int) (used : List Bool) (s a : Int) (A A' : Option Addr) (c c' : Nat) (w : World) (h : RdS w w.heap.size A A' ages used) :
    Calls Try.prog 8 #[.agg #[.slice A ages.length c, .slice A' used.length c'], .agg #[.int .i64 s, .int .i64 a]] w fun e w' => e = .returned (.bool true) ∧ Kept 0 0 w w' := by
  by_cases hz : ages.length + used.length ≤ 1048576
  · cases hb : slotsOkB ages used
    · exact lawDrop_gen ages used s a [] [] false (dropSpec_bad _ _ s a hb) (dropImpl_bad _ _ s a hb) (by simp) (by simp) hz A A' c c' w h
    · have hl := slotsOk_len hb
      cases hh : holdsB ages used s a
      · exact lawDrop_gen ages used s a ages used false (dropSpec_no _ _ s a hb (.inl hh)) (dropImpl_no _ _ s a hb (.inl hh)) (by omega) (by omega) hz A A' c c' w h
      · by_cases ha : a = 1000000
        · exact lawDrop_gen ages used s a ages used false (dropSpec_no _ _ s a hb (.inr ha)) (dropImpl_no _ _ s a hb (.inr ha)) (by omega) (by omega) hz A A' c c' w h
        · obtain ⟨_, k, rfl, h1, h2, he, _, b1, b2⟩ := holds_yes hh
          exact lawDrop_gen ages used k a (ages.set k (a + 1)) (used.set k false) true (dropSpec_yes _ _ k a _ _ hb hh ha h1 h2 he b1 b2 rfl rfl) (dropImpl_yes _ _ k a _ _ hb hh ha h1 h2 he b1 b2 rfl rfl) (by simp; omega) (by simp; omega) hz A A' c c' w h
  · have HM := Lib.hid (And.intro h.i.1 h.b.1)
    clear h
    go_enter Try.func8, Try.ntmps8
    go_wp2_with fail
    with_reducible refine (szS_big _ _ _ _ _ _ _ (by omega) HM.out.1 HM.out.2).mono ?_
    rintro e w1 ⟨rfl, hk⟩
    have K1 := Lib.hid (((Kept.alloc0 _ _).alloc _).trans hk)
    clear hk
    go_wp2
    go_ret
    exact ⟨rfl, K1.out⟩
end Go.Proofs.Ytgminepgldfdfaa
