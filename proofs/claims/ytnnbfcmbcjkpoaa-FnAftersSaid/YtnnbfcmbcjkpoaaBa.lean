/- Slots in memory: a slice of int64 and a slice of bools, read part by part and as one value; no program's function is named here. -/
import Derived.Test.YtnnbfcmbcjkpoaaWa
import Derived.Deep.CondSized
import Derived.OwnWalk
import Derived.Deep.DeepCutAuto
namespace Go.Proofs.Ytnnbfcmbcjkpoaa
open Go.RowKit Go.Sort

theorem Try.info2 : (Try.prog.info? 2).map (fun i => (i.zero, i.size, i.bytes)) = some (some (.int .i64 0), 1, 8) := Try.infoI
theorem Try.info4 : (Try.prog.info? 4).map (fun i => (i.zero, i.size, i.bytes)) = some (some (.bool false), 1, 1) := Try.infoB
/-- Slots that can be read, part by part. -/
structure RdL (w : World) (B : Nat) (A A' : Option Addr) (ages : List Int) (used : List Bool) : Prop where
  i : Rd (Value.int .i64) w B A ages
  b : Rd Value.bool w B A' used
/-- Slots of the call's own, part by part. -/
structure OwnL (w : World) (lo hi : Nat) (A : Option Addr) (c : Nat) (A' : Option Addr) (c' : Nat) (ages : List Int) (used : List Bool) : Prop where
  i : Own w lo hi 2 A ages.length c (ages.map (Value.int .i64))
  b : Own w lo hi 4 A' used.length c' (used.map Value.bool)
theorem RdL.kept {w w' : World} {B lo hi : Nat} {A A' : Option Addr} {ages : List Int} {used : List Bool} (h : RdL w B A A' ages used) (hB : B ≤ w.heap.size) (hk : Kept lo hi w w') (hr : hi ≤ lo ∨ B ≤ lo) : RdL w' B A A' ages used :=
  ⟨h.i.kept hB hk hr, h.b.kept hB hk hr⟩
theorem RdL.wide {w : World} {B B' : Nat} {A A' : Option Addr} {ages : List Int} {used : List Bool} (h : RdL w B A A' ages used) (hB : B ≤ B') : RdL w B' A A' ages used := ⟨h.i.wide hB, h.b.wide hB⟩
theorem OwnL.kept {w w' : World} {lo hi lo' hi' c c' : Nat} {A A' : Option Addr} {ages : List Int} {used : List Bool} (h : OwnL w lo hi A c A' c' ages used) (hk : Kept lo' hi' w w') (hr : hi' ≤ lo' ∨ hi ≤ lo' ∨ hi' ≤ lo) : OwnL w' lo hi A c A' c' ages used :=
  ⟨h.i.kept hk hr, h.b.kept hk hr⟩
theorem OwnL.rd {w : World} {lo hi c c' : Nat} {A A' : Option Addr} {ages : List Int} {used : List Bool} (h : OwnL w lo hi A c A' c' ages used) (h1 : ages.length ≤ 1048576) (h2 : used.length ≤ 1048576) : RdL w hi A A' ages used :=
  ⟨h.i.rd (by unfold maxLen; omega), h.b.rd (by unfold maxLen; omega)⟩
theorem RdL.up {w w' : World} {A A' : Option Addr} {ages : List Int} {used : List Bool} (h : RdL w w.heap.size A A' ages used) (hk : Kept 0 0 w w') : RdL w' w'.heap.size A A' ages used :=
  (h.kept (Nat.le_refl _) hk (.inl (Nat.le_refl _))).wide hk.size

/-- Slots as one value. -/
structure Slt where
  ages : List Int
  used : List Bool
deriving DecidableEq
/-- Slots that can be read. -/
def RdSl (w : World) (B : Nat) (v : Value) (t : Slt) : Prop := ∃ hv lv, v = .agg #[hv, lv] ∧ RdI w B hv t.ages ∧ RdB w B lv t.used
/-- Slots of the call's own. -/
def OwnSl (w : World) (lo hi : Nat) (v : Value) (t : Slt) : Prop := ∃ hv lv, v = .agg #[hv, lv] ∧ OwnI w lo hi hv t.ages ∧ OwnB w lo hi lv t.used
section
variable {w w' : World} {B B' lo hi lo' hi' : Nat} {v : Value} {t : Slt}
theorem RdSl.kept (h : RdSl w B v t) (hB : B ≤ w.heap.size) (hk : Kept lo hi w w') (hr : hi ≤ lo ∨ B ≤ lo) : RdSl w' B v t := by
  obtain ⟨a, b, e, h1, h2⟩ := h; exact ⟨a, b, e, h1.kept hB hk hr, h2.kept hB hk hr⟩
theorem RdSl.wide (h : RdSl w B v t) (hB : B ≤ B') : RdSl w B' v t := by
  obtain ⟨a, b, e, h1, h2⟩ := h; exact ⟨a, b, e, h1.wide hB, h2.wide hB⟩
theorem RdSl.up (h : RdSl w w.heap.size v t) (hk : Kept 0 0 w w') : RdSl w' w'.heap.size v t := (h.kept (Nat.le_refl _) hk (.inl (Nat.le_refl _))).wide hk.size
theorem OwnSl.kept (h : OwnSl w lo hi v t) (hk : Kept lo' hi' w w') (hr : hi' ≤ lo' ∨ hi ≤ lo' ∨ hi' ≤ lo) : OwnSl w' lo hi v t := by
  obtain ⟨a, b, e, h1, h2⟩ := h; exact ⟨a, b, e, h1.kept hk hr, h2.kept hk hr⟩
theorem OwnSl.wide (h : OwnSl w lo hi v t) (hl : lo' ≤ lo) (hh : hi ≤ hi') : OwnSl w lo' hi' v t := by
  obtain ⟨a, b, e, h1, h2⟩ := h; exact ⟨a, b, e, h1.wide hl hh, h2.wide hl hh⟩
theorem OwnSl.rdW (h : OwnSl w lo hi v t) (hh : hi ≤ w.heap.size) : RdSl w w.heap.size v t := by
  obtain ⟨a, b, e, h1, h2⟩ := h; exact ⟨a, b, e, h1.rdW hh, h2.rdW hh⟩
theorem OwnSl.rd (h : OwnSl w lo hi v t) : RdSl w hi v t := by
  obtain ⟨a, b, e, h1, h2⟩ := h; exact ⟨a, b, e, h1.rd, h2.rd⟩
theorem OwnSl.nil (w : World) (lo hi : Nat) : OwnSl w lo hi (.agg #[.slice none 0 0, .slice none 0 0]) ⟨[], []⟩ := ⟨_, _, rfl, OwnI.nil _ _ _, OwnB.nil _ _ _⟩
end
/-- From one value to its parts. -/
theorem rd_ofI {w : World} {B : Nat} {A : Option Addr} {xs : List Int} (h : RdR iR w B A xs) : Rd (Value.int .i64) w B A xs :=
  ⟨h.1, fun hn => by
    obtain ⟨ad, e, hb, hc⟩ := h.2 hn
    exact ⟨ad, e, hb, fun j x hx => hc j _ (by rw [iR_flat, List.getElem?_map, hx]; rfl)⟩⟩
theorem rd_ofB {w : World} {B : Nat} {A : Option Addr} {xs : List Bool} (h : RdR bR w B A xs) : Rd Value.bool w B A xs :=
  ⟨h.1, fun hn => by
    obtain ⟨ad, e, hb, hc⟩ := h.2 hn
    exact ⟨ad, e, hb, fun j x hx => hc j _ (by rw [bR_flat, List.getElem?_map, hx]; rfl)⟩⟩
theorem RdSl.parts {w : World} {B : Nat} {v : Value} {t : Slt} (h : RdSl w B v t) : ∃ A c A' c', v = .agg #[.slice A t.ages.length c, .slice A' t.used.length c'] ∧ RdL w B A A' t.ages t.used := by
  obtain ⟨_, _, rfl, ⟨A, c, rfl, h1⟩, ⟨A', c', rfl, h2⟩⟩ := h
  exact ⟨A, c, A', c', rfl, rd_ofI h1.rd, rd_ofB h2.rd⟩
theorem OwnL.one {w : World} {lo hi c c' : Nat} {A A' : Option Addr} {ages : List Int} {used : List Bool} (h : OwnL w lo hi A c A' c' ages used) : OwnSl w lo hi (.agg #[.slice A ages.length c, .slice A' used.length c']) ⟨ages, used⟩ :=
  ⟨_, _, rfl, ⟨A, c, rfl, by rw [iR_flat]; exact h.i⟩, ⟨A', c', rfl, by rw [bR_flat]; exact h.b⟩⟩
end Go.Proofs.Ytnnbfcmbcjkpoaa
