/- The stack of free handles: push appends a handle, pop removes the last one; no condition beyond the stack's own memory. -/
import Derived.Test.YtgminepgldfdfaaU
import Derived.Deep.RegionLaw
namespace Go.Proofs.Ytgminepgldfdfaa
open Go.RowKit

theorem Try.info36 : (Try.prog.info? 36).map (fun i => (i.zero, i.size, i.bytes)) = some (some (.agg #[.int .i64 0, .int .i64 0]), 2, 16) := by kernel_rfl

/-- The cells of a list of handles. -/
def hcells : List (Int × Int) → List Value
  | [] => []
  | h :: r => .int .i64 h.1 :: .int .i64 h.2 :: hcells r
theorem hcells_len (l : List (Int × Int)) : (hcells l).length = l.length * 2 := by
  induction l with
  | nil => rfl
  | cons h r ih => simp [hcells, ih]; omega
theorem hcells_append (l r : List (Int × Int)) : hcells (l ++ r) = hcells l ++ hcells r := by
  induction l with
  | nil => rfl
  | cons h t ih => simp [hcells, ih]
theorem hcells_one (l : List (Int × Int)) : ∀ u ∈ hcells l, u.oneCell' = true := by
  induction l with
  | nil => intro u hu; cases hu
  | cons h r ih =>
    intro u hu
    simp only [hcells, List.mem_cons] at hu
    rcases hu with rfl | rfl | hu
    · rfl
    · rfl
    · exact ih u hu

/-- A stack in block g whose row lies from block 'lo' on. -/
structure Stk (w : World) (g lo : Nat) (F : Option Addr) (f : Nat) (l : List (Int × Int)) : Prop where
  x : Blk w g 59 #[.slice F l.length f]
  o : w.ownsRow lo 36 2 (.slice F l.length f) l.length (hcells l)

theorem row_kept {w w' : World} {lo e size n : Nat} {v : Value} {xs : List Value} (h : w.ownsRow lo e size v n xs) (hk : Kept 0 0 w w') : w'.ownsRow lo e size v n xs := by
  refine ⟨h.1, ?_⟩
  rcases h.2 with hn | ⟨g, cap, cur, hv, hb, hg, rest⟩
  · exact .inl hn
  · exact .inr ⟨g, cap, cur, hv, hb, (hk.block g (Array.getElem?_eq_some_iff.1 hg).1 (.inr (Nat.zero_le _))).trans hg, rest⟩
theorem row_ne {w : World} {lo e size n g t : Nat} {v : Value} {xs : List Value} {cs : Array Value} (h : w.ownsRow lo e size v n xs) (hg : Blk w g t cs) (hne : e ≠ t) : v.ownBlock ≠ some g := by
  rcases h.2 with ⟨rfl, _⟩ | ⟨g', cap, cur, rfl, _, hh, _⟩
  · simp [Value.ownBlock]
  · intro he
    have : g' = g := by simpa [Value.ownBlock] using he
    subst this
    unfold Blk at hg
    rw [hh] at hg
    injection hg with hg
    injection hg with _ ht
    exact hne ht
theorem blk_grown {w w' : World} {row : Option Nat} {g t : Nat} {cs : Array Value} (h : Blk w g t cs) (hb : w.grownBy w' row) (hg : row ≠ some g) : Blk w' g t cs := (hb.block g h.lt (Ne.symm hg)).trans h

theorem new_cells {w : World} {g t : Nat} {s a : Int} (h : Blk w g t #[.int .i64 s, .int .i64 a]) : ∀ j u, ([.int .i64 s, .int .i64 a] : List Value)[j]? = some u → w.cell? ((⟨g, 0, none⟩ : Addr).add j) = some u := by
  intro j u hu
  have e : (⟨g, 0, none⟩ : Addr).add j = ⟨g, j, none⟩ := by unfold Addr.add; split <;> simp_all
  rw [e, h.cell j]
  simpa using hu

theorem push_stk {w2 : World} {g lo g2 cap : Nat} {F : Option Addr} {f : Nat} {l : List (Int × Int)} {s a : Int} (q : Blk w2 g 59 #[.slice F l.length f]) (hown : w2.ownsRow lo 36 2 (.slice (some ⟨g2, 0, none⟩) (l.length + 1) cap) (l.length + 1) (hcells l ++ [.int .i64 s, .int .i64 a])) :
    ∃ F' f', Stk (w2.setCell ⟨g, 0, none⟩ (.slice (some ⟨g2, 0, none⟩) (l.length + 1) cap)) g lo F' f' (l ++ [(s, a)]) := by
  have hlen : (l ++ [(s, a)]).length = l.length + 1 := by simp
  refine ⟨some ⟨g2, 0, none⟩, cap, ⟨?_, ?_⟩⟩
  · rw [hlen]; simpa using q.set_ 0 (.slice (some ⟨g2, 0, none⟩) (l.length + 1) cap)
  · rw [hlen, hcells_append]
    exact ownsRow_setCell_other hown (row_ne hown q (by decide)) _
theorem last_cells {w : World} {lo f : Nat} {F : Option Addr} {l : List (Int × Int)} {s a : Int} (h : w.ownsRow lo 36 2 (.slice F (l.length + 1) f) (l.length + 1) (hcells (l ++ [(s, a)]))) :
    ∃ g, F = some ⟨g, 0, none⟩ ∧ l.length + 1 ≤ f ∧ w.cell? ⟨g, l.length * 2, none⟩ = some (.int .i64 s) ∧ w.cell? ⟨g, l.length * 2 + 1, none⟩ = some (.int .i64 a) := by
  rcases h.2 with ⟨_, hn⟩ | ⟨g, cap, cur, hv, _, hg, hc, _, _, _⟩
  · omega
  injection hv with h1 h2 h3
  subst h1 h3
  refine ⟨g, rfl, hc, ?_, ?_⟩
  · rw [h.cellAt _ (by omega), hcells_append, List.getElem?_append_right (by rw [hcells_len]; omega), hcells_len, Nat.sub_self]; rfl
  · rw [h.cellAt _ (by omega), hcells_append, List.getElem?_append_right (by rw [hcells_len]; omega), hcells_len, Nat.add_sub_cancel_left]; rfl

set_option maxHeartbeats 800000 in
theorem push_any (w : World) (g lo B : Nat) (F : Option Addr) (f : Nat) (l : List (Int × Int)) (s a : Int) (h : Stk w g lo F f l) (hg : B ≤ g) (hlo : B ≤ lo) (hw : lo ≤ w.heap.size) (hn : l.length ≤ 64) :
    Calls Try.prog 50 #[.pointer (some ⟨g, 0, none⟩), .agg #[.int .i64 s, .int .i64 a]] w fun e w' => e = .returned (.tuple #[]) ∧ (∃ F' f', Stk w' g lo F' f' (l ++ [(s, a)])) ∧ Below B w w' := by
  obtain ⟨i0, hi, hz0, hz1, hz2⟩ := info_parts Try.info36
  have H := Lib.hid h
  clear h
  go_enter Try.func50, Try.ntmps50
  go_wp2
  obtain ⟨W, hW⟩ : ∃ W, W = w.alloc (.cells #[.int .i64 s, .int .i64 a] 36) := ⟨_, rfl⟩
  have B1 : Hid (Blk W w.heap.size 36 #[.int .i64 s, .int .i64 a]) := by show Blk _ _ _ _; rw [hW]; exact Blk.new _ _ _
  have kW : Kept 0 0 w W := by rw [hW]; exact Kept.alloc0 _ _
  rw [← hW]
  clear hW
  have X := Lib.hid (H.out.x.kept kW (.inl (Nat.le_refl _)))
  have gw : g < W.heap.size := X.out.lt
  have gw2 : w.heap.size < W.heap.size := B1.out.lt
  have c0 := X.out.cell 0
  have c1 := B1.out.cell 0
  have c2 := B1.out.cell 1
  have wz : w.heap.size ≤ W.heap.size := kW.size
  have kc : Kept 0 0 w (W.alloc (.cells #[.int .i64 s, .int .i64 a] 36)).drew := (kW.alloc _).drew
  have ro := Lib.hid (row_kept H.out.o kc)
  have bc := Lib.hid (H.out.x.kept kc (.inl (Nat.le_refl _)))
  have bel := Lib.hid (kc.below (B := B) (by omega) (.inl (Nat.le_refl _)))
  have bn := Lib.hid (Blk.new W 36 #[.int .i64 s, .int .i64 a]).drew
  clear kc kW
  go_region_law (first | (refine step_append_lies _ rfl (.tmp 8) (.tmp 10) 34 rfl lo 36 i0 (.agg #[.int .i64 0, .int .i64 0]) 2 16 Try.underlying34 hi hz0 hz1 hz2 rfl (by decide) (.slice F l.length f) l.length (hcells l) rfl (by exact ro.out) ⟨W.heap.size, 0, none⟩ 1 1 [.int .i64 s, .int .i64 a] rfl rfl (by exact new_cells bn.out) (by exact hcells_one [(s, a)]) (by omega) (by unfold maxLen; omega) (by omega) (by simp; omega) _ rfl ?_; intro g2 cap w2 hown hgrow hlie hlt; have q : Blk w2 g 59 #[.slice F l.length f] := blk_grown bc.out hgrow (row_ne ro.out bc.out (by decide)); have bl : Below B w w2 := bel.out.grown hgrow (by simp; omega) (fun k hk => Nat.le_trans hlo (ro.out.lt k hk).1); have q0 := q.cell 0; have q1 := q.frozen 0))
  all_goals
    go_end0
    exact ⟨rfl, push_stk q hown, bl.setCell hg _⟩

set_option maxHeartbeats 800000 in
theorem pop_none (w : World) (g lo : Nat) (F : Option Addr) (f : Nat) (h : Stk w g lo F f []) :
    Calls Try.prog 34 #[.pointer (some ⟨g, 0, none⟩)] w fun e w' => e = .returned (.tuple #[.agg #[.int .i64 0, .int .i64 0], .bool false]) ∧ Kept 0 0 w w' := by
  have gw : g < w.heap.size := h.x.lt
  have c0 : w.cell? ⟨g, 0, none⟩ = some (.slice F 0 f) := h.x.cell 0
  clear h
  go_enter Try.func34, Try.ntmps34
  go_wp2
  exact bodyPost_ret (v := .tuple #[.agg #[.int .i64 0, .int .i64 0], .bool false]) (by simp [results, Try.results34, go_sem]) rfl ⟨rfl, (Kept.alloc0 _ _).alloc _⟩

set_option maxHeartbeats 800000 in
theorem pop_some (w : World) (g lo : Nat) (F : Option Addr) (f : Nat) (l : List (Int × Int)) (s a : Int) (h : Stk w g lo F f (l ++ [(s, a)])) (hl : l.length ≤ 64) :
    Calls Try.prog 34 #[.pointer (some ⟨g, 0, none⟩)] w fun e w' => e = .returned (.tuple #[.agg #[.int .i64 s, .int .i64 a], .bool true]) ∧ Kept g (g + 1) w w' := by
  have gw : g < w.heap.size := h.x.lt
  have hlen : (l ++ [(s, a)]).length = l.length + 1 := by simp
  have ho := h.o
  have hx := h.x
  rw [hlen] at ho hx
  obtain ⟨ga, rfl, gcap, ca, cb⟩ := last_cells ho
  have c0 : w.cell? ⟨g, 0, none⟩ = some (.slice (some ⟨ga, 0, none⟩) (l.length + 1) f) := hx.cell 0
  have c1 := hx.frozen 0
  have e1 : (((l.length : Int) + 1) == 0) = false := by simp; omega
  have ga1 : ga < w.heap.size := World.block_lt_of_cell? w _ ca
  clear h ho hx hlen
  go_enter Try.func34, Try.ntmps34
  go_wp2
  refine bodyPost_ret (v := .tuple #[.agg #[.int .i64 s, .int .i64 a], .bool true]) (by simp [results, Try.results34, go_sem]) rfl ⟨rfl, ?_⟩
  exact (((Kept.refl g (g + 1) w).setCell (p := ⟨g, 0, none⟩) (.inr ⟨Nat.le_refl _, Nat.lt_succ_self _⟩) _).alloc _).alloc _
end Go.Proofs.Ytgminepgldfdfaa
