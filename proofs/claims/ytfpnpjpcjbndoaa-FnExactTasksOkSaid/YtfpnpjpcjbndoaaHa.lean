/- Tasks: what the reference says of them, on paper; boxes of tasks in memory; the laws' toTask and eqTask; no condition. -/
import Derived.Test.YtfpnpjpcjbndoaaRc
import Derived.Test.YtfpnpjpcjbndoaaNb
import Derived.Deep.DeepCutAuto
namespace Go.Proofs.Ytfpnpjpcjbndoaa
open Go.RowKit Go.Sort

structure Tk where
  prog : Int
  pc : Int
  st : Int
  why : Int
  what : Int
  timer : Int
  reg : Int
  grp : Int
  err : Int
deriving DecidableEq
def waitsB (t : Tk) : Bool :=
  if t.why = 1 then inT t.what 0 59 && decide (t.timer = -1)
  else if t.why = 2 then inT t.what 0 59 && inT t.timer 0 1000000
  else if t.why = 3 ∨ t.why = 4 then inT t.what 0 7 && decide (t.timer = -1)
  else false
def restB (t : Tk) : Bool :=
  if t.st = 1 then waitsB t && decide (t.err = 0)
  else inT t.st 0 2 && (decide (t.why = 0) && (decide (t.what = 0) && (decide (t.timer = -1) && (decide (t.st = 2) || decide (t.err = 0)))))
def tkB (t : Tk) : Bool := inT t.prog 0 7 && (inT t.pc 0 12 && (inT t.reg 0 999 && (inT t.grp (-1) 7 && (inT t.err 0 99 && restB t))))
def zeroT : Tk := ⟨0, 0, 0, 0, 0, 0, 0, 0, 0⟩
def newT (p g : Int) : Tk := if tkB ⟨p, 0, 0, 0, 0, -1, 0, g, 0⟩ = true then ⟨p, 0, 0, 0, 0, -1, 0, g, 0⟩ else zeroT
def eitherT (t x : Tk) : Tk := if tkB x = true then x else t
def parkT (t : Tk) (y h m : Int) : Tk :=
  if tkB t = true then (if t.st = 0 then eitherT t ⟨t.prog, t.pc, 1, y, h, m, t.reg, t.grp, t.err⟩ else t) else zeroT
def freeT (t : Tk) (s : Int) : Tk := ⟨t.prog, t.pc, s, 0, 0, -1, t.reg, t.grp, t.err⟩
def readyT (t : Tk) (r : Int) : Tk :=
  if tkB t = true then (if t.st = 2 then t else eitherT t ⟨t.prog, t.pc + 1, 0, 0, 0, -1, r, t.grp, t.err⟩) else zeroT
def endT (t : Tk) (x : Int) : Tk :=
  if tkB t = true then (if t.st = 2 then t else eitherT t ⟨t.prog, t.pc, 2, 0, 0, -1, t.reg, t.grp, x⟩) else zeroT
theorem tkB_pc {t : Tk} (h : tkB t = true) : 0 ≤ t.pc ∧ t.pc ≤ 12 := by
  simp [tkB, inT] at h; omega
/-- How a task lies in memory. -/
def tkR : Rec Tk := ⟨9, fun x => [.int .i64 x.prog, .int .i64 x.pc, .int .i64 x.st, .int .i64 x.why, .int .i64 x.what, .int .i64 x.timer, .int .i64 x.reg, .int .i64 x.grp, .int .i64 x.err], fun _ => rfl, by decide, fun x u hu => by
  simp only [List.mem_cons, List.not_mem_nil, or_false] at hu
  rcases hu with rfl | rfl | rfl | rfl | rfl | rfl | rfl | rfl | rfl <;> rfl⟩
theorem tkR_k : tkR.k = 9 := rfl
theorem size_alloc (w : World) (o : Obj) : (w.alloc o).heap.size = w.heap.size + 1 := by simp
/-- A box of a task: its cells. -/
theorem Blk.nine {w : World} {g ty : Nat} {v0 v1 v2 v3 v4 v5 v6 v7 v8 : Value} (h : Blk w g ty #[v0, v1, v2, v3, v4, v5, v6, v7, v8]) :
    w.cell? ⟨g, 0, none⟩ = some v0 ∧ w.cell? ⟨g, 1, none⟩ = some v1 ∧ w.cell? ⟨g, 2, none⟩ = some v2 ∧ w.cell? ⟨g, 3, none⟩ = some v3 ∧ w.cell? ⟨g, 4, none⟩ = some v4 ∧ w.cell? ⟨g, 5, none⟩ = some v5 ∧ w.cell? ⟨g, 6, none⟩ = some v6 ∧ w.cell? ⟨g, 7, none⟩ = some v7 ∧ w.cell? ⟨g, 8, none⟩ = some v8 :=
  ⟨h.cell 0, h.cell 1, h.cell 2, h.cell 3, h.cell 4, h.cell 5, h.cell 6, h.cell 7, h.cell 8⟩
set_option maxHeartbeats 1600000 in
theorem toTask_any (x : Tk) (w : World) :
    Calls Try.prog 37 #[.agg #[.int .i64 x.prog, .int .i64 x.pc, .int .i64 x.st, .int .i64 x.why, .int .i64 x.what, .int .i64 x.timer, .int .i64 x.reg, .int .i64 x.grp, .int .i64 x.err]] w fun e w' => e = .returned (.agg #[.int .i64 x.prog, .int .i64 x.pc, .int .i64 x.st, .int .i64 x.why, .int .i64 x.what, .int .i64 x.timer, .int .i64 x.reg, .int .i64 x.grp, .int .i64 x.err]) ∧ Kept 0 0 w w' := by
  go_enter Try.func37, Try.ntmps37
  go_wp2
  exact bodyPost_ret (v := .agg #[.int .i64 x.prog, .int .i64 x.pc, .int .i64 x.st, .int .i64 x.why, .int .i64 x.what, .int .i64 x.timer, .int .i64 x.reg, .int .i64 x.grp, .int .i64 x.err]) (by simp [results, Try.results37, go_sem]) rfl ⟨rfl, ((Kept.alloc0 _ _).alloc _).alloc _⟩
set_option maxHeartbeats 1600000 in
theorem eqTask_same (x : Tk) (w : World) :
    Calls Try.prog 38 #[.agg #[.int .i64 x.prog, .int .i64 x.pc, .int .i64 x.st, .int .i64 x.why, .int .i64 x.what, .int .i64 x.timer, .int .i64 x.reg, .int .i64 x.grp, .int .i64 x.err], .agg #[.int .i64 x.prog, .int .i64 x.pc, .int .i64 x.st, .int .i64 x.why, .int .i64 x.what, .int .i64 x.timer, .int .i64 x.reg, .int .i64 x.grp, .int .i64 x.err]] w fun e w' => e = .returned (.bool true) ∧ Kept 0 0 w w' := by
  obtain ⟨prog, pc, st, why, what, timer, reg, grp, err⟩ := x
  obtain ⟨V, hV⟩ : ∃ V, V = w.alloc (.cells #[.int .i64 prog, .int .i64 pc, .int .i64 st, .int .i64 why, .int .i64 what, .int .i64 timer, .int .i64 reg, .int .i64 grp, .int .i64 err] 35) := ⟨_, rfl⟩
  obtain ⟨W, hW⟩ : ∃ W, W = V.alloc (.cells #[.int .i64 prog, .int .i64 pc, .int .i64 st, .int .i64 why, .int .i64 what, .int .i64 timer, .int .i64 reg, .int .i64 grp, .int .i64 err] 35) := ⟨_, rfl⟩
  have KW : Hid (Kept 0 0 w W) := by show Kept _ _ _ _; rw [hW, hV]; exact (Kept.alloc0 _ _).alloc _
  have B : Blk W w.heap.size 35 #[.int .i64 prog, .int .i64 pc, .int .i64 st, .int .i64 why, .int .i64 what, .int .i64 timer, .int .i64 reg, .int .i64 grp, .int .i64 err] := by rw [hW, hV]; exact (Blk.new _ _ _).alloc _
  have B' : Blk W (w.heap.size + 1) 35 #[.int .i64 prog, .int .i64 pc, .int .i64 st, .int .i64 why, .int .i64 what, .int .i64 timer, .int .i64 reg, .int .i64 grp, .int .i64 err] := by have h := Blk.new V 35 #[.int .i64 prog, .int .i64 pc, .int .i64 st, .int .i64 why, .int .i64 what, .int .i64 timer, .int .i64 reg, .int .i64 grp, .int .i64 err]; have e : V.heap.size = w.heap.size + 1 := (by rw [hV]; exact size_alloc _ _); rw [e, ← hW] at h; exact h
  obtain ⟨c0, c1, c2, c3, c4, c5, c6, c7, c8⟩ := B.nine
  obtain ⟨d0, d1, d2, d3, d4, d5, d6, d7, d8⟩ := B'.nine
  have HW : Hid (W = (w.alloc (.cells #[.int .i64 prog, .int .i64 pc, .int .i64 st, .int .i64 why, .int .i64 what, .int .i64 timer, .int .i64 reg, .int .i64 grp, .int .i64 err] 35)).alloc (.cells #[.int .i64 prog, .int .i64 pc, .int .i64 st, .int .i64 why, .int .i64 what, .int .i64 timer, .int .i64 reg, .int .i64 grp, .int .i64 err] 35)) := by show _ = _; rw [hW, hV]
  clear hW hV B B'
  have qprog : (prog != prog) = false := by simp
  have qpc : (pc != pc) = false := by simp
  have qst : (st != st) = false := by simp
  have qwhy : (why != why) = false := by simp
  have qwhat : (what != what) = false := by simp
  have qtimer : (timer != timer) = false := by simp
  have qreg : (reg != reg) = false := by simp
  have qgrp : (grp != grp) = false := by simp
  have qerr : (err != err) = false := by simp
  go_enter Try.func38, Try.ntmps38
  go_upto_region 1 with fail
  rw [← HW.out]
  clear HW
  go_wp2_with fail
  go_ret
  exact ⟨rfl, KW.out⟩
end Go.Proofs.Ytfpnpjpcjbndoaa
