/- The program's test on a function, its closures, has and find; condition: the functions are in memory as Dfr says. -/
import Derived.Test.YtnnbfcmbcjkpoaaCo
namespace Go.Proofs.Ytnnbfcmbcjkpoaa
open Go.RowKit Go.Sort

theorem set_allocA (w : World) (o : Obj) (p : Addr) (u : Value) (hp : p.block < w.heap.size) : (w.alloc o).setCell p u = (w.setCell p u).alloc o := by
  simp only [World.alloc, World.setCell]
  congr 1
  apply Array.ext_getElem?
  intro i
  simp only [Array.getElem?_modify, Array.getElem?_push, Array.size_modify]
  by_cases h : p.block = i
  · subst h
    simp [hp, Nat.ne_of_lt hp]
  · simp [h]

def isAfB (x : Aft) : Bool := inR x.node 0 59 && inR x.func 0 99
set_option maxHeartbeats 800000 in
theorem isAfter_any (x : Aft) (w : World) : Calls Try.prog 41 #[.agg (afC x)] w fun e w' => e = .returned (.bool (isAfB x)) ∧ Kept 0 0 w w' := by
  unfold afC
  by_cases h1 : 0 ≤ x.node
  case neg =>
    have E : Hid (isAfB x = false) := by show _ = _; simp [isAfB, inR]; omega
    have g1 : decide (0 ≤ x.node) = false := by simpa using h1
    go_enter Try.func41, Try.ntmps41
    go_wp2
    go_ret
    exact ⟨ret_bool E.out.symm, Kept.alloc0 _ _⟩
  by_cases h2 : x.node < 60
  case neg =>
    have E : Hid (isAfB x = false) := by show _ = _; simp [isAfB, inR]; omega
    have g1 : decide (0 ≤ x.node) = true := by simpa using h1
    have g2 : decide (x.node < 60) = false := by simpa using h2
    go_enter Try.func41, Try.ntmps41
    go_wp2
    go_ret
    exact ⟨ret_bool E.out.symm, Kept.alloc0 _ _⟩
  by_cases h3 : 0 ≤ x.func
  case neg =>
    have E : Hid (isAfB x = false) := by show _ = _; simp [isAfB, inR]; omega
    have g1 : decide (0 ≤ x.node) = true := by simpa using h1
    have g2 : decide (x.node < 60) = true := by simpa using h2
    have g3 : decide (0 ≤ x.func) = false := by simpa using h3
    go_enter Try.func41, Try.ntmps41
    go_wp2
    go_ret
    exact ⟨ret_bool E.out.symm, Kept.alloc0 _ _⟩
  have g1 : decide (0 ≤ x.node) = true := by simpa using h1
  have g2 : decide (x.node < 60) = true := by simpa using h2
  have g3 : decide (0 ≤ x.func) = true := by simpa using h3
  by_cases h4 : x.func ≤ 99
  case neg =>
    have E : Hid (isAfB x = false) := by show _ = _; simp [isAfB, inR]; omega
    have g4 : decide (x.func ≤ 99) = false := by simpa using h4
    go_enter Try.func41, Try.ntmps41
    go_wp2
    go_ret
    exact ⟨ret_bool E.out.symm, Kept.alloc0 _ _⟩
  have E : Hid (isAfB x = true) := by show _ = _; simp [isAfB, inR]; omega
  have g4 : decide (x.func ≤ 99) = true := by simpa using h4
  go_enter Try.func41, Try.ntmps41
  go_wp2
  go_ret
  exact ⟨ret_bool E.out.symm, Kept.alloc0 _ _⟩

set_option maxHeartbeats 800000 in
theorem clo_no (x : Aft) (b : Nat) (n : Int) (w : World) (hb : Blk w b 42 (afC x)) (hn : x.node ≠ n) :
    Calls Try.prog 69 #[.int .i64 n, .pointer (some ⟨b, 0, none⟩)] w fun e w' => e = .returned (.agg (afC x)) ∧ Kept 0 0 w w' := by
  have hlt := hb.lt
  have c0 : w.cell? ⟨b, 0, none⟩ = some (.int .i64 x.slot) := hb.cell 0
  have c1 : w.cell? ⟨b, 1, none⟩ = some (.int .i64 x.age) := hb.cell 1
  have c2 : w.cell? ⟨b, 2, none⟩ = some (.int .i64 x.node) := hb.cell 2
  have c3 : w.cell? ⟨b, 3, none⟩ = some (.int .i64 x.func) := hb.cell 3
  have c4 : w.cell? ⟨b, 4, none⟩ = some (.bool x.queued) := hb.cell 4
  have g1 : (x.node == n) = false := by simpa using hn
  clear hb hn
  go_enter Try.func69, Try.ntmps69
  go_wp2
  refine bodyPost_ret (v := .agg (afC x)) (by simp [results, Try.results69, go_sem, afC]) rfl ⟨rfl, ?_⟩
  exact Kept.alloc0 _ _
set_option maxHeartbeats 800000 in
theorem clo_yes (x : Aft) (b : Nat) (w : World) (hb : Blk w b 42 (afC x)) :
    Calls Try.prog 69 #[.int .i64 x.node, .pointer (some ⟨b, 0, none⟩)] w fun e w' => e = .returned (.agg (afC ⟨x.slot, x.age, x.node, x.func, true⟩)) ∧ Kept b (b + 1) w w' ∧ Blk w' b 42 (afC ⟨x.slot, x.age, x.node, x.func, true⟩) := by
  have hlt := hb.lt
  have HB := Lib.hid hb
  have c0 : w.cell? ⟨b, 0, none⟩ = some (.int .i64 x.slot) := hb.cell 0
  have c1 : w.cell? ⟨b, 1, none⟩ = some (.int .i64 x.age) := hb.cell 1
  have c2 : w.cell? ⟨b, 2, none⟩ = some (.int .i64 x.node) := hb.cell 2
  have c3 : w.cell? ⟨b, 3, none⟩ = some (.int .i64 x.func) := hb.cell 3
  have c4 : w.cell? ⟨b, 4, none⟩ = some (.bool x.queued) := hb.cell 4
  have f4 := hb.frozen 4
  have g1 : (x.node == x.node) = true := by simp
  clear hb
  go_enter Try.func69, Try.ntmps69
  go_wp2
  refine bodyPost_ret (v := .agg (afC ⟨x.slot, x.age, x.node, x.func, true⟩)) (by simp [results, Try.results69, go_sem, afC]) rfl ⟨rfl, ?_, ?_⟩
  · exact ((Kept.refl b (b + 1) w).setCell (p := ⟨b, 4, none⟩) (.inr ⟨Nat.le_refl _, Nat.lt_succ_self _⟩) _).alloc _
  · exact (HB.out.set_ 4 _).alloc _

theorem neqF_nil (w : World) : (binOp .neq 79 .nilFunc .nilFunc).run Try.prog w = .ok (.bool false) w := by
  have h : ∀ d : Nat, (Op.equalIn (d + 1) 79 .nilFunc .nilFunc).run Try.prog w = .ok true w := fun d => by simp [Op.equalIn, run_underlying Try.underlying79]
  simp only [binOp]
  simp [Op.equal, Op.maxDepth, h 9999]
theorem neqF_clo (b : Nat) (w : World) : (binOp .neq 79 (clo b) .nilFunc).run Try.prog w = .ok (.bool true) w := by
  have h : ∀ d : Nat, (Op.equalIn (d + 1) 79 (clo b) .nilFunc).run Try.prog w = .ok false w := fun d => by simp [Op.equalIn, clo, run_underlying Try.underlying79]
  unfold clo at h ⊢
  simp only [binOp]
  simp [Op.equal, Op.maxDepth, h 9999]

set_option maxHeartbeats 800000 in
theorem has_no {w : World} {lo g m c1 c2 c3 : Nat} {A1 A2 A3 : Option Addr} {t : Slt} {hs : List (Int × Int)} {ps : List (Aft × Nat)} (h : Dfr w lo g m A1 c1 A2 c2 A3 c3 t hs ps) (a : Int × Int) (hn : NoKey (kvOf ps) a) :
    Calls Try.prog 39 #[.pointer (some ⟨g, 0, none⟩), hkey a] w fun e w' => e = .returned (.bool false) ∧ Kept 0 0 w w' := by
  unfold hkey
  obtain ⟨W, hW⟩ : ∃ W, W = w.alloc (.cells #[.int .i64 a.1, .int .i64 a.2] 40) := ⟨_, rfl⟩
  have KW : Hid (Kept 0 0 w W) := by show Kept _ _ _ _; rw [hW]; exact Kept.alloc0 _ _
  have B0 : Blk W w.heap.size 40 #[.int .i64 a.1, .int .i64 a.2] := by rw [hW]; exact Blk.new _ _ _
  have H := h.kept KW.out
  have LK : (Instr.lookup 75 (.map (some m)) (.agg #[.int .i64 a.1, .int .i64 a.2]) false).run Try.prog W.drew = .ok .nilFunc W.drew := (H.map.kept (Kept.refl 0 0 W).drew (.inl (Nat.le_refl _))).look_no hn
  have gw := H.blk.lt
  have gz := B0.lt
  have x0 : W.cell? ⟨g, 3, none⟩ = some (.map (some m)) := H.blk.cell 3
  have x1 : W.cell? ⟨w.heap.size, 0, none⟩ = some (.int .i64 a.1) := B0.cell 0
  have x2 : W.cell? ⟨w.heap.size, 1, none⟩ = some (.int .i64 a.2) := B0.cell 1
  have HW := Lib.hid hW
  clear hW h B0 H
  go_enter Try.func39, Try.ntmps39
  go_upto_region 1 with fail
  rw [← HW.out]
  have NQ := neqF_nil W.drew
  go_region
  go_wp2
  go_ret
  exact ⟨rfl, KW.out.drew⟩
set_option maxHeartbeats 800000 in
theorem has_yes {w : World} {lo g m c1 c2 c3 : Nat} {A1 A2 A3 : Option Addr} {t : Slt} {hs : List (Int × Int)} {ps : List (Aft × Nat)} (h : Dfr w lo g m A1 c1 A2 c2 A3 c3 t hs ps) (a : Int × Int) (i : Nat) (hn : KeyAt (kvOf ps) a i) :
    Calls Try.prog 39 #[.pointer (some ⟨g, 0, none⟩), hkey a] w fun e w' => e = .returned (.bool true) ∧ Kept 0 0 w w' := by
  have hi : i < ps.length := by obtain ⟨hi, _⟩ := hn; rwa [kvOf_len] at hi
  have ek : ((kvOf ps)[i]'(by rw [kvOf_len]; exact hi)).2 = clo ps[i].2 := by simp [kvOf]
  unfold hkey
  obtain ⟨W, hW⟩ : ∃ W, W = w.alloc (.cells #[.int .i64 a.1, .int .i64 a.2] 40) := ⟨_, rfl⟩
  have KW : Hid (Kept 0 0 w W) := by show Kept _ _ _ _; rw [hW]; exact Kept.alloc0 _ _
  have B0 : Blk W w.heap.size 40 #[.int .i64 a.1, .int .i64 a.2] := by rw [hW]; exact Blk.new _ _ _
  have H := h.kept KW.out
  have LK : (Instr.lookup 75 (.map (some m)) (.agg #[.int .i64 a.1, .int .i64 a.2]) false).run Try.prog W.drew = .ok (clo ps[i].2) W.drew := by rw [← ek]; exact (H.map.kept (Kept.refl 0 0 W).drew (.inl (Nat.le_refl _))).look_at hn _
  have gw := H.blk.lt
  have gz := B0.lt
  have x0 : W.cell? ⟨g, 3, none⟩ = some (.map (some m)) := H.blk.cell 3
  have x1 : W.cell? ⟨w.heap.size, 0, none⟩ = some (.int .i64 a.1) := B0.cell 0
  have x2 : W.cell? ⟨w.heap.size, 1, none⟩ = some (.int .i64 a.2) := B0.cell 1
  have HW := Lib.hid hW
  clear hW h B0 H ek
  go_enter Try.func39, Try.ntmps39
  go_upto_region 1 with fail
  rw [← HW.out]
  have NQ := neqF_clo ps[i].2 W.drew
  unfold clo at LK NQ
  go_region
  go_wp2
  go_ret
  exact ⟨rfl, KW.out.drew⟩
set_option maxHeartbeats 1600000 in
set_option maxRecDepth 100000 in
theorem find_any {w : World} {lo g m c1 c2 c3 : Nat} {A1 A2 A3 : Option Addr} {t : Slt} {hs : List (Int × Int)} {ps : List (Aft × Nat)} (h : Dfr w lo g m A1 c1 A2 c2 A3 c3 t hs ps) (a : Int × Int) (i : Nat) (hn : KeyAt (kvOf ps) a i) (hi : i < ps.length) (hx : 0 ≤ ps[i].1.node) :
    Calls Try.prog 37 #[.pointer (some ⟨g, 0, none⟩), hkey a] w fun e w' => e = .returned (.agg (afC ps[i].1)) ∧ Kept 0 0 w w' := by
  have ek : ((kvOf ps)[i]'(by rw [kvOf_len]; exact hi)).2 = clo ps[i].2 := by simp [kvOf]
  unfold hkey
  obtain ⟨W, hW⟩ : ∃ W, W = (w.alloc (.cells #[.int .i64 a.1, .int .i64 a.2] 40)).alloc (.cells #[.int .i64 0, .int .i64 0, .int .i64 0, .int .i64 0, .bool false] 42) := ⟨_, rfl⟩
  have KW : Hid (Kept 0 0 w W) := by show Kept _ _ _ _; rw [hW]; exact (Kept.alloc0 _ _).alloc _
  have B0 : Hid (Blk W w.heap.size 40 #[.int .i64 a.1, .int .i64 a.2]) := by show Blk _ _ _ _; rw [hW]; exact (Blk.new _ _ _).alloc _
  have B1 : Hid (Blk W (w.heap.size + 1) 42 #[.int .i64 0, .int .i64 0, .int .i64 0, .int .i64 0, .bool false]) := by show Blk _ _ _ _; rw [hW]; have := Blk.new (w.alloc (.cells #[.int .i64 a.1, .int .i64 a.2] 40)) 42 #[.int .i64 0, .int .i64 0, .int .i64 0, .int .i64 0, .bool false]; simpa using this
  have H := h.kept KW.out
  have LK : (Instr.lookup 75 (.map (some m)) (.agg #[.int .i64 a.1, .int .i64 a.2]) false).run Try.prog W.drew = .ok (clo ps[i].2) W.drew := by rw [← ek]; exact (H.map.kept (Kept.refl 0 0 W).drew (.inl (Nat.le_refl _))).look_at hn _
  have CC := Lib.hid (clo_no ps[i].1 ps[i].2 (-1) W.drew ((H.box _ (List.getElem_mem hi)).2.drew) (by omega))
  have gw := H.blk.lt
  have gz := B0.out.lt
  have gz1 := B1.out.lt
  have x0 : W.cell? ⟨g, 3, none⟩ = some (.map (some m)) := H.blk.cell 3
  have x1 : W.cell? ⟨w.heap.size, 0, none⟩ = some (.int .i64 a.1) := B0.out.cell 0
  have x2 : W.cell? ⟨w.heap.size, 1, none⟩ = some (.int .i64 a.2) := B0.out.cell 1
  have HW := Lib.hid hW
  obtain ⟨x, hxx⟩ : ∃ x, x = ps[i].1 := ⟨_, rfl⟩
  rw [← hxx] at CC ⊢
  clear hW h H ek hxx hx
  go_enter Try.func37, Try.ntmps37
  go_upto_region 1 with fail
  rw [← HW.out]
  unfold clo at LK
  unfold afC at CC
  go_region_with (
    with_reducible refine CC.out.mono ?_
    rintro e w2 ⟨rfl, hk⟩
    have K2 : Hid (Kept 0 0 W w2) := (Kept.refl 0 0 W).drew.trans hk
    have D1 := B1.out.kept K2.out (.inl (Nat.le_refl _))
    have d0 := D1.cell 0
    have d1 := D1.cell 1
    have d2 := D1.cell 2
    have d3 := D1.cell 3
    have d4 := D1.cell 4
    have f0 := D1.frozen 0
    have f1 := D1.frozen 1
    have f2 := D1.frozen 2
    have f3 := D1.frozen 3
    have f4 := D1.frozen 4
    simp only [List.getElem?_toArray, List.getElem?_cons_succ, List.getElem?_cons_zero] at d0 d1 d2 d3 d4
    have E1 := Lib.hid D1
    clear hk D1)
  all_goals (
    go_wp2_with fail
    obtain ⟨V, hV⟩ : ∃ V, V = (((((w2.setCell ⟨w.heap.size + 1, 0, none⟩ (.int .i64 x.slot)).setCell ⟨w.heap.size + 1, 1, none⟩ (.int .i64 x.age)).setCell ⟨w.heap.size + 1, 2, none⟩ (.int .i64 x.node)).setCell ⟨w.heap.size + 1, 3, none⟩ (.int .i64 x.func)).setCell ⟨w.heap.size + 1, 4, none⟩ (.bool x.queued)) := ⟨_, rfl⟩
    have BV : Blk V (w.heap.size + 1) 42 (afC x) := by rw [hV]; exact ((((E1.out.set_ 0 _).set_ 1 _).set_ 2 _).set_ 3 _).set_ 4 _
    have KV : Kept 0 0 w V := by rw [hV]; exact ((((((KW.out.trans K2.out).setCell (.inl (by simp)) _).setCell (.inl (by simp)) _).setCell (.inl (by simp)) _).setCell (.inl (by simp)) _).setCell (.inl (by simp)) _)
    rw [← hV]
    have e0 : V.cell? ⟨w.heap.size + 1, 0, none⟩ = some (.int .i64 x.slot) := BV.cell 0
    have e1 : V.cell? ⟨w.heap.size + 1, 1, none⟩ = some (.int .i64 x.age) := BV.cell 1
    have e2 : V.cell? ⟨w.heap.size + 1, 2, none⟩ = some (.int .i64 x.node) := BV.cell 2
    have e3 : V.cell? ⟨w.heap.size + 1, 3, none⟩ = some (.int .i64 x.func) := BV.cell 3
    have e4 : V.cell? ⟨w.heap.size + 1, 4, none⟩ = some (.bool x.queued) := BV.cell 4
    clear hV
    refine bodyPost_ret (v := .agg (afC x)) (by simp [results, Try.results37, go_sem, afC, e0, e1, e2, e3, e4]) rfl ⟨rfl, KV⟩)
end Go.Proofs.Ytnnbfcmbcjkpoaa
