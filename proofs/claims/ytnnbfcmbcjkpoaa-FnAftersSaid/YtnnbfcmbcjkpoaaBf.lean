/- The stack of free handles: push, pop and freeHandles; condition: valid slots. -/
import Derived.Test.YtnnbfcmbcjkpoaaBc
import Derived.Test.YtnnbfcmbcjkpoaaBd
import Derived.Deep.RegionLaw
namespace Go.Proofs.Ytnnbfcmbcjkpoaa
open Go.RowKit Go.Sort



theorem Try.infoHd : (Try.prog.info? 40).map (fun i => (i.zero, i.size, i.bytes)) = some (some (.agg #[.int .i64 0, .int .i64 0]), 2, 16) := by kernel_rfl

/-- The cells of a list of handles. -/
def hcells : List (Int × Int) → List Value
  | [] => []
  | h :: r => .int .i64 h.1 :: .int .i64 h.2 :: hcells r
theorem hcells_len (l : List (Int × Int)) : (hcells l).length = l.length * 2 := by
  induction l with
  | nil => rfl
  | cons h r ih => simp [hcells, ih]; omega
theorem hcells_append (l r : List (Int × Int)) : hcells (l ++ r) = hcells l ++ hcells r := by
  induction l with
  | nil => rfl
  | cons h t ih => simp [hcells, ih]
theorem hcells_one (l : List (Int × Int)) : ∀ u ∈ hcells l, u.oneCell' = true := by
  induction l with
  | nil => intro u hu; cases hu
  | cons h r ih =>
    intro u hu
    simp only [hcells, List.mem_cons] at hu
    rcases hu with rfl | rfl | hu
    · rfl
    · rfl
    · exact ih u hu

/-- A stack in block g whose row lies from block 'lo' on. -/
structure Stk (w : World) (g lo : Nat) (F : Option Addr) (f : Nat) (l : List (Int × Int)) : Prop where
  x : Blk w g 104 #[.slice F l.length f]
  o : w.ownsRow lo 40 2 (.slice F l.length f) l.length (hcells l)

theorem new_cells {w : World} {g t : Nat} {s a : Int} (h : Blk w g t #[.int .i64 s, .int .i64 a]) : ∀ j u, ([.int .i64 s, .int .i64 a] : List Value)[j]? = some u → w.cell? ((⟨g, 0, none⟩ : Addr).add j) = some u := by
  intro j u hu
  have e : (⟨g, 0, none⟩ : Addr).add j = ⟨g, j, none⟩ := by unfold Addr.add; split <;> simp_all
  rw [e, h.cell j]
  simpa using hu

theorem push_stk {w2 : World} {g lo g2 cap : Nat} {F : Option Addr} {f : Nat} {l : List (Int × Int)} {s a : Int} (q : Blk w2 g 104 #[.slice F l.length f]) (hown : w2.ownsRow lo 40 2 (.slice (some ⟨g2, 0, none⟩) (l.length + 1) cap) (l.length + 1) (hcells l ++ [.int .i64 s, .int .i64 a])) :
    ∃ F' f', Stk (w2.setCell ⟨g, 0, none⟩ (.slice (some ⟨g2, 0, none⟩) (l.length + 1) cap)) g lo F' f' (l ++ [(s, a)]) := by
  have hlen : (l ++ [(s, a)]).length = l.length + 1 := by simp
  refine ⟨some ⟨g2, 0, none⟩, cap, ⟨?_, ?_⟩⟩
  · rw [hlen]; simpa using q.set_ 0 (.slice (some ⟨g2, 0, none⟩) (l.length + 1) cap)
  · rw [hlen, hcells_append]
    exact ownsRow_setCell_other hown (row_ne hown q (by decide)) _
theorem last_cells {w : World} {lo f : Nat} {F : Option Addr} {l : List (Int × Int)} {s a : Int} (h : w.ownsRow lo 40 2 (.slice F (l.length + 1) f) (l.length + 1) (hcells (l ++ [(s, a)]))) :
    ∃ g, F = some ⟨g, 0, none⟩ ∧ l.length + 1 ≤ f ∧ w.cell? ⟨g, l.length * 2, none⟩ = some (.int .i64 s) ∧ w.cell? ⟨g, l.length * 2 + 1, none⟩ = some (.int .i64 a) := by
  rcases h.2 with ⟨_, hn⟩ | ⟨g, cap, cur, hv, _, hg, hc, _, _, _⟩
  · omega
  injection hv with h1 h2 h3
  subst h1 h3
  refine ⟨g, rfl, hc, ?_, ?_⟩
  · rw [h.cellAt _ (by omega), hcells_append, List.getElem?_append_right (by rw [hcells_len]; omega), hcells_len, Nat.sub_self]; rfl
  · rw [h.cellAt _ (by omega), hcells_append, List.getElem?_append_right (by rw [hcells_len]; omega), hcells_len, Nat.add_sub_cancel_left]; rfl

set_option maxHeartbeats 800000 in
theorem push_any (w : World) (g lo B : Nat) (F : Option Addr) (f : Nat) (l : List (Int × Int)) (s a : Int) (h : Stk w g lo F f l) (hg : B ≤ g) (hlo : B ≤ lo) (hw : lo ≤ w.heap.size) (hn : l.length ≤ 64) :
    Calls Try.prog 87 #[.pointer (some ⟨g, 0, none⟩), .agg #[.int .i64 s, .int .i64 a]] w fun e w' => e = .returned (.tuple #[]) ∧ (∃ F' f', Stk w' g lo F' f' (l ++ [(s, a)])) ∧ Below B w w' := by
  obtain ⟨i0, hi, hz0, hz1, hz2⟩ := info_parts Try.infoHd
  have H := Lib.hid h
  clear h
  go_enter Try.func87, Try.ntmps87
  go_wp2
  obtain ⟨W, hW⟩ : ∃ W, W = w.alloc (.cells #[.int .i64 s, .int .i64 a] 40) := ⟨_, rfl⟩
  have B1 : Hid (Blk W w.heap.size 40 #[.int .i64 s, .int .i64 a]) := by show Blk _ _ _ _; rw [hW]; exact Blk.new _ _ _
  have kW : Kept 0 0 w W := by rw [hW]; exact Kept.alloc0 _ _
  rw [← hW]
  clear hW
  have X := Lib.hid (H.out.x.kept kW (.inl (Nat.le_refl _)))
  have gw : g < W.heap.size := X.out.lt
  have gw2 : w.heap.size < W.heap.size := B1.out.lt
  have c0 := X.out.cell 0
  have c1 := B1.out.cell 0
  have c2 := B1.out.cell 1
  have wz : w.heap.size ≤ W.heap.size := kW.size
  have kc : Kept 0 0 w (W.alloc (.cells #[.int .i64 s, .int .i64 a] 40)).drew := (kW.alloc _).drew
  have ro := Lib.hid (row_kept H.out.o kc)
  have bc := Lib.hid (H.out.x.kept kc (.inl (Nat.le_refl _)))
  have bel := Lib.hid (kc.below (B := B) (by omega) (.inl (Nat.le_refl _)))
  have bn := Lib.hid (Blk.new W 40 #[.int .i64 s, .int .i64 a]).drew
  clear kc kW
  go_region_law (first | (refine step_append_lies _ rfl (.tmp 8) (.tmp 10) 37 rfl lo 40 i0 (.agg #[.int .i64 0, .int .i64 0]) 2 16 Try.underlying37 hi hz0 hz1 hz2 rfl (by decide) (.slice F l.length f) l.length (hcells l) rfl (by exact ro.out) ⟨W.heap.size, 0, none⟩ 1 1 [.int .i64 s, .int .i64 a] rfl rfl (by exact new_cells bn.out) (by exact hcells_one [(s, a)]) (by omega) (by unfold maxLen; omega) (by omega) (by simp; omega) _ rfl ?_; intro g2 cap w2 hown hgrow hlie hlt; have q : Blk w2 g 104 #[.slice F l.length f] := blk_grown bc.out hgrow (row_ne ro.out bc.out (by decide)); have bl : Below B w w2 := bel.out.grown hgrow (by simp; omega) (fun k hk => Nat.le_trans hlo (ro.out.lt k hk).1); have q0 := q.cell 0; have q1 := q.frozen 0))
  all_goals
    go_end0
    exact ⟨rfl, push_stk q hown, bl.setCell hg _⟩

set_option maxHeartbeats 800000 in
theorem pop_none (w : World) (g lo : Nat) (F : Option Addr) (f : Nat) (h : Stk w g lo F f []) :
    Calls Try.prog 68 #[.pointer (some ⟨g, 0, none⟩)] w fun e w' => e = .returned (.tuple #[.agg #[.int .i64 0, .int .i64 0], .bool false]) ∧ Kept 0 0 w w' := by
  have gw : g < w.heap.size := h.x.lt
  have c0 : w.cell? ⟨g, 0, none⟩ = some (.slice F 0 f) := h.x.cell 0
  clear h
  go_enter Try.func68, Try.ntmps68
  go_wp2
  exact bodyPost_ret (v := .tuple #[.agg #[.int .i64 0, .int .i64 0], .bool false]) (by simp [results, Try.results68, go_sem]) rfl ⟨rfl, (Kept.alloc0 _ _).alloc _⟩

set_option maxHeartbeats 800000 in
theorem pop_some (w : World) (g lo : Nat) (F : Option Addr) (f : Nat) (l : List (Int × Int)) (s a : Int) (h : Stk w g lo F f (l ++ [(s, a)])) (hl : l.length ≤ 64) :
    Calls Try.prog 68 #[.pointer (some ⟨g, 0, none⟩)] w fun e w' => e = .returned (.tuple #[.agg #[.int .i64 s, .int .i64 a], .bool true]) ∧ Kept g (g + 1) w w' := by
  have gw : g < w.heap.size := h.x.lt
  have hlen : (l ++ [(s, a)]).length = l.length + 1 := by simp
  have ho := h.o
  have hx := h.x
  rw [hlen] at ho hx
  obtain ⟨ga, rfl, gcap, ca, cb⟩ := last_cells ho
  have c0 : w.cell? ⟨g, 0, none⟩ = some (.slice (some ⟨ga, 0, none⟩) (l.length + 1) f) := hx.cell 0
  have c1 := hx.frozen 0
  have e1 : (((l.length : Int) + 1) == 0) = false := by simp; omega
  have ga1 : ga < w.heap.size := World.block_lt_of_cell? w _ ca
  clear h ho hx hlen
  go_enter Try.func68, Try.ntmps68
  go_wp2
  refine bodyPost_ret (v := .tuple #[.agg #[.int .i64 s, .int .i64 a], .bool true]) (by simp [results, Try.results68, go_sem]) rfl ⟨rfl, ?_⟩
  exact (((Kept.refl g (g + 1) w).setCell (p := ⟨g, 0, none⟩) (.inr ⟨Nat.le_refl _, Nat.lt_succ_self _⟩) _).alloc _).alloc _


/-- Slot i can be taken. -/
def freeB (ages : List Int) (used : List Bool) (i : Nat) : Bool := !(used.getD i true) && !(ages.getD i 1000000 == 1000000)
/-- The stack behind m rounds (from the last slot down). -/
def stk (ages : List Int) (used : List Bool) : Nat → List (Int × Int)
  | 0 => []
  | m + 1 => stk ages used m ++ if freeB ages used (ages.length - 1 - m) then [(((ages.length - 1 - m : Nat) : Int), ages.getD (ages.length - 1 - m) 0)] else []
theorem stk_len (ages : List Int) (used : List Bool) (m : Nat) : (stk ages used m).length ≤ m := by
  induction m with
  | zero => simp [stk]
  | succ m ih => simp only [stk, List.length_append]; split <;> simp <;> omega
theorem stk_free {ages : List Int} {used : List Bool} {m i : Nat} (hi : ages.length - 1 - m = i) (h : freeB ages used i = true) (hl : i < ages.length) : stk ages used (m + 1) = stk ages used m ++ [((i : Int), ages[i])] := by
  simp only [stk, hi, h, if_true]
  simp [hl]
theorem stk_full {ages : List Int} {used : List Bool} {m i : Nat} (hi : ages.length - 1 - m = i) (h : freeB ages used i = false) : stk ages used (m + 1) = stk ages used m := by
  simp [stk, hi, h]

theorem freeB_at {ages : List Int} {used : List Bool} {i : Nat} (h1 : i < ages.length) (h2 : i < used.length) : freeB ages used i = (!used[i] && !(ages[i] == 1000000)) := by
  simp [freeB, h1, h2]
theorem RdL.below {w w' : World} {B B' : Nat} {A A' : Option Addr} {ages : List Int} {used : List Bool} (h : RdL w B A A' ages used) (hb : Below B' w w') (hB : B ≤ B') : RdL w' B A A' ages used := ⟨h.i.below (hb.mono hB), h.b.below (hb.mono hB)⟩
theorem Stk.kept {w w' : World} {g lo : Nat} {F : Option Addr} {f : Nat} {l : List (Int × Int)} (h : Stk w g lo F f l) (hk : Kept 0 0 w w') : Stk w' g lo F f l := ⟨h.x.kept hk (.inl (Nat.le_refl _)), row_kept h.o hk⟩

set_option maxHeartbeats 1600000 in
theorem freeHandles_any (ages : List Int) (used : List Bool) (A A' : Option Addr) (c c' B : Nat) (w : World) (hB : B ≤ w.heap.size) (h : RdL w B A A' ages used) (h1 : 1 ≤ ages.length) (h2 : ages.length ≤ 64) (h3 : used.length = ages.length) :
    Calls Try.prog 67 #[.agg #[.slice A ages.length c, .slice A' used.length c']] w fun e w' => ∃ (F : Option Addr) (f : Nat),
      e = .returned (.agg #[.slice F (stk ages used ages.length).length f]) ∧ w'.ownsRow w.heap.size 40 2 (.slice F (stk ages used ages.length).length f) (stk ages used ages.length).length (hcells (stk ages used ages.length)) ∧ Kept 0 0 w w' := by
  have H := Lib.hid h
  have H3 := Lib.hid h3
  clear h h3
  go_enter Try.func67, Try.ntmps67
  go_wp2
  obtain ⟨W, hW⟩ : ∃ W, W = ((w.alloc (.cells #[.slice A ages.length c, .slice A' used.length c'] 31)).alloc (.cells #[.slice none 0 0] 104)).alloc (.cells #[.slice none 0 0] 104) := ⟨_, rfl⟩
  have B1 : Hid (Blk W w.heap.size 31 #[.slice A ages.length c, .slice A' used.length c']) := by show Blk _ _ _ _; rw [hW]; exact ((Blk.new w 31 _).alloc _).alloc _
  have B2 : Hid (Blk W (w.heap.size + 1) 104 #[.slice none 0 0]) := by show Blk _ _ _ _; rw [hW]; have := ((Blk.new (w.alloc (.cells #[.slice A ages.length c, .slice A' used.length c'] 31)) 104 #[.slice none 0 0]).alloc (.cells #[.slice none 0 0] 104)); simpa using this
  have B3 : Hid (Blk W (w.heap.size + 1 + 1) 104 #[.slice none 0 0]) := by show Blk _ _ _ _; rw [hW]; have := (Blk.new ((w.alloc (.cells #[.slice A ages.length c, .slice A' used.length c'] 31)).alloc (.cells #[.slice none 0 0] 104)) 104 #[.slice none 0 0]); simpa using this
  have K := Lib.hid (show Kept 0 0 w W by rw [hW]; exact ((Kept.alloc0 w _).alloc _).alloc _)
  rw [← hW]
  clear hW
  have R := Lib.hid (H.out.kept hB K.out (.inl (Nat.le_refl _)))
  have z3 := B3.out.lt
  have S0 : Hid (Stk W (w.heap.size + 1 + 1) (w.heap.size + 1 + 1) none 0 (stk ages used 0)) := ⟨B3.out, World.ownsRow_nil _ _ _ _⟩
  clear H
  go_loopw [4] (fun i wr => ∃ m : Nat, m ≤ ages.length ∧ i = .int .i64 ((ages.length : Int) - 1 - m) ∧ Hid (∃ F f, Stk wr (w.heap.size + 1 + 1) (w.heap.size + 1 + 1) F f (stk ages used m)) ∧ Hid (Below (w.heap.size + 1 + 1) W wr)) (fun i _ => (intOf i + 1).toNat)
  case atStart => exact ⟨0, Nat.zero_le _, by go_num, ⟨none, 0, S0.out⟩, Lib.hid (Below.refl _ _)⟩
  case round =>
    obtain ⟨m, hm, rfl, HS, HB⟩ := hrel
    obtain ⟨F, f, hst⟩ := HS.out
    have b1 := B1.out.below HB.out (by omega)
    have b2 := B2.out.below HB.out (by omega)
    have r1 := R.out.below HB.out (by omega)
    have zr := HB.out.size
    have c0 := b1.cell 0
    have c1 := b1.cell 1
    have B1r := Lib.hid b1
    have B2r := Lib.hid b2
    have Rr := Lib.hid r1
    have ST := Lib.hid hst
    clear b1 b2 r1 hst HS
    by_cases hlt : m < ages.length
    · obtain ⟨i, hi⟩ : ∃ i : Nat, i = ages.length - 1 - m := ⟨_, rfl⟩
      have hiz : (ages.length : Int) - 1 - m = (i : Int) := by omega
      rw [hiz]
      have HI := Lib.hid hi.symm
      have HZ := Lib.hid hiz
      have l1 : i < ages.length := by omega
      have l2 : i < used.length := by have := H3.out; omega
      clear hi hiz
      obtain ⟨ad, rfl, _, hc⟩ := Rr.out.i.at_ l1
      obtain ⟨ad', rfl, _, hc'⟩ := Rr.out.b.at_ l2
      have i1 : (i : Int) < (ages.length : Int) := by omega
      have i2 : (i : Int) < (used.length : Int) := by omega
      have g0 : (0 : Int) ≤ (i : Int) := by omega
      have FB := Lib.hid (freeB_at (ages := ages) (used := used) l1 l2)
      generalize used[i] = u at hc' FB
      cases u
      · cases hage : (ages[i] == 1000000)
        · have hne : (ages[i] != 1000000) = true := by simp [bne, hage]
          rw [hage] at FB
          have FS := Lib.hid (stk_free HI.out (by rw [FB.out]; rfl) l1)
          clear hage
          go_wp2_with fail
          clear c0 c1 hc hc'
          with_reducible refine (handleAt_any ages used i _ _ _ _ B _ (by omega) (by exact Rr.out) l1).mono ?_
          rintro e w2 ⟨rfl, hk⟩
          have S2 := Lib.hid (ST.out.kept hk)
          have z2 := hk.size
          have HB2 := Lib.hid (HB.out.trans (hk.below (by omega) (.inl (Nat.le_refl _))))
          have hl := stk_len ages used m
          clear hk
          go_wp2_with fail
          with_reducible refine (push_any _ _ (w.heap.size + 1 + 1) (w.heap.size + 1 + 1) _ _ _ _ _ (by exact S2.out) (by omega) (by omega) (by omega) (by omega)).mono ?_
          rintro e w3 ⟨rfl, hs3, hb3⟩
          have S3 := Lib.hid hs3
          have HB3 := Lib.hid (HB2.out.trans hb3)
          clear hs3 hb3 hl
          go_wp2
          go_roundw
          case rel => exact ⟨m + 1, by omega, by rw [show (ages.length : Int) - 1 - (m + 1 : Nat) = (i : Int) - 1 from by have := HZ.out; omega], Lib.hid (by rw [FS.out]; exact S3.out), HB3⟩
          case measure => first | (simp [intOf]; done) | (simp [intOf]; omega)
        · have hne : (ages[i] != 1000000) = false := by simp [bne, hage]
          rw [hage] at FB
          have FS := Lib.hid (stk_full HI.out (by rw [FB.out]; rfl))
          clear hage
          go_wp2
          go_roundw
          case rel => exact ⟨m + 1, by omega, by rw [show (ages.length : Int) - 1 - (m + 1 : Nat) = (i : Int) - 1 from by have := HZ.out; omega], Lib.hid (by rw [FS.out]; exact ⟨F, f, ST.out⟩), HB⟩
          case measure => first | (simp [intOf]; done) | (simp [intOf]; omega)
      · have FS := Lib.hid (stk_full HI.out (by rw [FB.out]; rfl))
        go_wp2
        go_roundw
        case rel => exact ⟨m + 1, by omega, by rw [show (ages.length : Int) - 1 - (m + 1 : Nat) = (i : Int) - 1 from by have := HZ.out; omega], Lib.hid (by rw [FS.out]; exact ⟨F, f, ST.out⟩), HB⟩
        case measure => first | (simp [intOf]; done) | (simp [intOf]; omega)
    · have hmm : m = ages.length := by omega
      have HM := Lib.hid hmm
      have e0 : ¬ (0 ≤ (ages.length : Int) - 1 - m) := by omega
      clear hmm
      have c2 := ST.out.x.cell 0
      have c3 := B2r.out.cell 0
      have c4 := B2r.out.frozen 0
      go_wp2
      refine bodyPost_ret (v := .agg #[.slice F (stk ages used m).length f]) (by simp [results, Try.results67, go_sem, c3]) rfl ⟨F, f, ?_, ?_, ?_⟩
      · rw [HM.out]
      · have := HM.out
        subst this
        exact ownsRow_lo (ownsRow_setCell_other ST.out.o (row_ne ST.out.o B2r.out (by decide)) _) (by omega)
      · exact ((K.out.trans2 (Kept.of_below_from HB.out) (.inr (by omega))).setCell (.inl (by simp)) _)
end Go.Proofs.Ytnnbfcmbcjkpoaa
