/- The program's list of a linked heap: new memory with its elements in preorder; condition: the heap lies in memory and has at most 1000 elements. -/
import Derived.Test.YtnphjohmkjoefaaPe
import Derived.Test.YtnphjohmkjoefaaPg
namespace Go.Proofs.Ytnphjohmkjoefaa
open Go.RowKit Go.Sort

/-- Where the listing of a heap stands when both sides are listed: the root in a box of its own, two rows of the call's own beside it. -/
def ListSt (w : World) (d s : Int) (xs ys : List Tw) (p vl vr : Value) (wx : World) : Prop :=
  ∃ gb lo2 hi2 lo3 hi3, p = toBlk gb ∧ Blk wx gb 77 #[.int .i64 d, .int .i64 s, .int .i64 0] ∧ w.heap.size ≤ gb ∧ OwnT wx lo2 hi2 vl xs ∧ hi2 ≤ wx.heap.size ∧ (gb < lo2 ∨ hi2 ≤ gb) ∧ OwnT wx lo3 hi3 vr ys ∧ hi3 ≤ wx.heap.size ∧ (gb < lo3 ∨ hi3 ≤ gb) ∧ Kept 0 0 w wx
theorem ListSt.new {w w3 : World} {d s : Int} {xs ys : List Tw} {vl vr : Value} {lo2 hi2 lo3 hi3 : Nat} (k3 : Kept 0 0 w w3) (h2 : OwnT w3 lo2 hi2 vl xs) (l2 : hi2 ≤ w3.heap.size) (h3 : OwnT w3 lo3 hi3 vr ys) (l3 : hi3 ≤ w3.heap.size) :
    ListSt w d s xs ys (toBlk w3.heap.size) vl vr (w3.alloc (.cells #[.int .i64 d, .int .i64 s, .int .i64 0] 77)) := by
  have ka := Kept.alloc0 w3 (.cells #[.int .i64 d, .int .i64 s, .int .i64 0] 77)
  have za := ka.size
  exact ⟨_, lo2, hi2, lo3, hi3, rfl, Blk.new _ _ _, k3.size, h2.kept ka (.inl (Nat.le_refl _)), by omega, .inr l2, h3.kept ka (.inl (Nat.le_refl _)), by omega, .inr l3, k3.trans ka⟩
theorem ListSt.set {w w3 : World} {d s : Int} {xs ys : List Tw} {vl vr : Value} {gb lo2 hi2 lo3 hi3 : Nat} (k3 : Kept 0 0 w w3) (X : Blk w3 gb 77 #[.int .i64 0, .int .i64 0, .int .i64 0]) (hg : w.heap.size ≤ gb) (h2 : OwnT w3 lo2 hi2 vl xs) (l2 : hi2 ≤ w3.heap.size) (g2 : gb < lo2 ∨ hi2 ≤ gb) (h3 : OwnT w3 lo3 hi3 vr ys) (l3 : hi3 ≤ w3.heap.size) (g3 : gb < lo3 ∨ hi3 ≤ gb) :
    ListSt w d s xs ys (toBlk gb) vl vr (((w3.setCell ⟨gb, 0, none⟩ (.int .i64 d)).setCell ⟨gb, 1, none⟩ (.int .i64 s)).setCell ⟨gb, 2, none⟩ (.int .i64 0)) := by
  have ka : Kept gb (gb + 1) w3 (((w3.setCell ⟨gb, 0, none⟩ (.int .i64 d)).setCell ⟨gb, 1, none⟩ (.int .i64 s)).setCell ⟨gb, 2, none⟩ (.int .i64 0)) :=
    (((Kept.refl gb (gb + 1) w3).setCell (.inr ⟨Nat.le_refl _, Nat.lt_succ_self _⟩) _).setCell (.inr ⟨Nat.le_refl _, Nat.lt_succ_self _⟩) _).setCell (.inr ⟨Nat.le_refl _, Nat.lt_succ_self _⟩) _
  have za := ka.size
  exact ⟨gb, lo2, hi2, lo3, hi3, rfl, ((X.set_ 0 _).set_ 1 _).set_ 2 _, hg, h2.kept ka (by omega), by omega, g2, h3.kept ka (by omega), by omega, g3, k3.trans2 ka (.inr hg)⟩

theorem el3 {w : World} {g : Nat} {t : TypeId} {a b c x y : Value} (h : Blk w g t #[a, b, c, x, y]) : w.cell? ⟨g, 3, none⟩ = some x := h.cell 3
theorem el4 {w : World} {g : Nat} {t : TypeId} {a b c x y : Value} (h : Blk w g t #[a, b, c, x, y]) : w.cell? ⟨g, 4, none⟩ = some y := h.cell 4
def ListDoes (n : Nat) : Prop := ∀ (t : PT) (par : Value) (w : World), t.size ≤ n → t.size ≤ 1000 → Lay w par t →
  Calls Try.prog 51 #[t.ptr] w fun e w' => ∃ u, e = .returned u ∧ OwnT w' w.heap.size w'.heap.size u t.tree.pre ∧ Kept 0 0 w w'
theorem ListDoes.at_ {n : Nat} (h : ListDoes n) (t : PT) (par : Value) (w : World) (h1 : t.size ≤ n) (h2 : t.size ≤ 1000) (h3 : Lay w par t) :
  Calls Try.prog 51 #[t.ptr] w fun e w' => ∃ u, e = .returned u ∧ OwnT w' w.heap.size w'.heap.size u t.tree.pre ∧ Kept 0 0 w w' := h t par w h1 h2 h3
set_option maxHeartbeats 400000 in
theorem list_nil (w : World) : Calls Try.prog 51 #[.pointer none] w fun e w' => ∃ u, e = .returned u ∧ OwnT w' w.heap.size w'.heap.size u [] ∧ Kept 0 0 w w' := by
  go_enter Try.func51, Try.ntmps51
  go_wp2_with fail
  go_ret
  exact ⟨_, rfl, OwnT.nil _ _ _, Kept.refl _ _ _⟩

set_option maxHeartbeats 6400000 in
theorem list_node {n : Nat} (ih : ListDoes n) (g : Nat) (d s : Int) (l r : PT) (par : Value) (w : World) (hn : (PT.node g d s l r).size ≤ n + 1) (hm : (PT.node g d s l r).size ≤ 1000) (h : Lay w par (.node g d s l r)) :
    Calls Try.prog 51 #[toBlk g] w fun e w' => ∃ u, e = .returned u ∧ OwnT w' w.heap.size w'.heap.size u (PT.node g d s l r).tree.pre ∧ Kept 0 0 w w' := by
  have HB := Lib.hid h.1
  have HL := Lib.hid h.2.1
  have HR := Lib.hid h.2.2
  have IH := Lib.hid ih
  have nl : l.size ≤ n := by simp only [PT.size] at hn; omega
  have nr : r.size ≤ n := by simp only [PT.size] at hn; omega
  have ml : l.size ≤ 1000 := by simp only [PT.size] at hm; omega
  have mr : r.size ≤ 1000 := by simp only [PT.size] at hm; omega
  have el : Hid (l.tree.pre.length = l.size) := by show _ = _; rw [HTree.pre_len, PT.size_tree]
  have er : Hid (r.tree.pre.length = r.size) := by show _ = _; rw [HTree.pre_len, PT.size_tree]
  have EP : Hid ((PT.node g d s l r).tree.pre = ⟨d, s, l.tree.pre.length⟩ :: (l.tree.pre ++ r.tree.pre)) := by show _ = _; rw [HTree.pre_len]; rfl
  have hg := h.1.lt
  have HT := Lib.hid twSlice
  clear h ih hn hm
  go_enter Try.func51, Try.ntmps51
  go_upto_region 3 with fail
  go_cut [3, 4, 5] (fun p vl vr wx => ListSt w d s l.tree.pre r.tree.pre p vl vr wx)
  case first =>
    go_region_held3 (fun w' => w'.cell? ⟨g, 3, none⟩ = some l.ptr ∧ w'.cell? ⟨g, 4, none⟩ = some r.ptr)
      (first | with_reducible exact ⟨el3 HB.out.drew, el4 HB.out.drew⟩ | with_reducible exact ⟨el3 (HB.out.alloc (.cells #[.int .i64 0, .int .i64 0, .int .i64 0] 77)).drew, el4 (HB.out.alloc (.cells #[.int .i64 0, .int .i64 0, .int .i64 0] 77)).drew⟩ | with_reducible exact ⟨el3 B1, el4 B1⟩ | with_reducible exact ⟨el3 (B1.alloc (.cells #[.int .i64 0, .int .i64 0, .int .i64 0] 77)), el4 (B1.alloc (.cells #[.int .i64 0, .int .i64 0, .int .i64 0] 77))⟩ | with_reducible exact ⟨el3 B2, el4 B2⟩ | with_reducible exact ⟨el3 (B2.alloc (.cells #[.int .i64 0, .int .i64 0, .int .i64 0] 77)), el4 (B2.alloc (.cells #[.int .i64 0, .int .i64 0, .int .i64 0] 77))⟩ | with_reducible exact ⟨el3 B3, el4 B3⟩ | with_reducible exact ⟨el3 (B3.alloc (.cells #[.int .i64 0, .int .i64 0, .int .i64 0] 77)), el4 (B3.alloc (.cells #[.int .i64 0, .int .i64 0, .int .i64 0] 77))⟩ | with_reducible exact ⟨el3 (B3.alloc (.cells #[.int .i64 d, .int .i64 s, .int .i64 0] 77)), el4 (B3.alloc (.cells #[.int .i64 d, .int .i64 s, .int .i64 0] 77))⟩ | with_reducible exact ⟨el3 (((B3.far (by first | omega | (simp; done) | (simp; omega)) _).far (by first | omega | (simp; done) | (simp; omega)) _).far (by first | omega | (simp; done) | (simp; omega)) _), el4 (((B3.far (by first | omega | (simp; done) | (simp; omega)) _).far (by first | omega | (simp; done) | (simp; omega)) _).far (by first | omega | (simp; done) | (simp; omega)) _)⟩)
      (first
        | (go_at_call 68; ((with_reducible refine (aloneP_any g d s par l.ptr r.ptr w.drew HB.out.drew).mono ?_)); rintro e w1 ⟨rfl, hk⟩; have k1 : Kept 0 0 w w1 := (Kept.refl 0 0 w).drew.trans hk; have z1 := k1.size; have B1 := HB.out.kept k1 (.inl (Nat.le_refl _)); clear hk)
        | (go_at_call 68; ((with_reducible refine (aloneP_any g d s par l.ptr r.ptr (w.alloc (.cells #[.int .i64 0, .int .i64 0, .int .i64 0] 77)).drew ((HB.out.alloc (.cells #[.int .i64 0, .int .i64 0, .int .i64 0] 77)).drew)).mono ?_)); rintro e w1 ⟨rfl, hk⟩; have k1 : Kept 0 0 w w1 := (Kept.alloc0 w (.cells #[.int .i64 0, .int .i64 0, .int .i64 0] 77)).drew.trans hk; have X1 : Blk w1 w.heap.size 77 #[.int .i64 0, .int .i64 0, .int .i64 0] := (Blk.new w 77 _).drew.kept hk (.inl (Nat.le_refl _)); have x1 := X1.lt; have B1 := HB.out.kept k1 (.inl (Nat.le_refl _)); clear hk)
        | (go_at_call 51; have _t := X1; ((with_reducible refine (IH.out.at_ l (toBlk g) w1 nl ml (HL.out.kept k1 (.inl (Nat.le_refl _)))).mono ?_)); rintro e w2 ⟨u2, rfl, ho, hk⟩; have c2 : Kept 0 0 w1 w2 := hk; have k2 : Kept 0 0 w w2 := k1.trans c2; have B2 := B1.kept c2 (.inl (Nat.le_refl _)); have z2 := c2.size; have X2 := X1.kept c2 (.inl (Nat.le_refl _)); have O2 := ho; clear hk ho)
        | (go_at_call 51; ((with_reducible refine (IH.out.at_ l (toBlk g) (w1.alloc (.cells #[.int .i64 0, .int .i64 0, .int .i64 0] 77)) nl ml ((HL.out.kept k1 (.inl (Nat.le_refl _))).kept (Kept.alloc0 w1 (.cells #[.int .i64 0, .int .i64 0, .int .i64 0] 77)) (.inl (Nat.le_refl _)))).mono ?_)); rintro e w2 ⟨u2, rfl, ho, hk⟩; have c2 : Kept 0 0 w1 w2 := (Kept.alloc0 w1 (.cells #[.int .i64 0, .int .i64 0, .int .i64 0] 77)).trans hk; have k2 : Kept 0 0 w w2 := k1.trans c2; have B2 := B1.kept c2 (.inl (Nat.le_refl _)); have z2 := c2.size; have X2 : Blk w2 w1.heap.size 77 #[.int .i64 0, .int .i64 0, .int .i64 0] := (Blk.new w1 77 _).kept hk (.inl (Nat.le_refl _)); have x2 : w1.heap.size < (w1.alloc (.cells #[.int .i64 0, .int .i64 0, .int .i64 0] 77)).heap.size := (by simp); have y2 := hk.size; have zz2 := k1.size; have O2 := ho; clear hk ho)
        | (go_at_call 51; ((with_reducible refine (IH.out.at_ l (toBlk g) w1 nl ml (HL.out.kept k1 (.inl (Nat.le_refl _)))).mono ?_)); rintro e w2 ⟨u2, rfl, ho, hk⟩; have c2 : Kept 0 0 w1 w2 := hk; have k2 : Kept 0 0 w w2 := k1.trans c2; have B2 := B1.kept c2 (.inl (Nat.le_refl _)); have z2 := c2.size; have O2 := ho; clear hk ho)
        | (go_at_call 51; have _o := O2; have _t := X2; ((with_reducible refine (IH.out.at_ r (toBlk g) w2 nr mr (HR.out.kept k2 (.inl (Nat.le_refl _)))).mono ?_)); rintro e w3 ⟨u3, rfl, ho, hk⟩; have c3 : Kept 0 0 w2 w3 := hk; have k3 : Kept 0 0 w w3 := k2.trans c3; have B3 := B2.kept c3 (.inl (Nat.le_refl _)); have z3 := c3.size; have P2 := O2.kept c3 (.inl (Nat.le_refl _)); have X3 := X2.kept c3 (.inl (Nat.le_refl _)); have O3 := ho; have q0 := X3.cell 0; have q1 := X3.cell 1; have q2 := X3.cell 2; have f0 := X3.frozen 0; have f1 := X3.frozen 1; have f2 := X3.frozen 2; clear hk ho)
        | (go_at_call 51; have _o := O2; ((with_reducible refine (IH.out.at_ r (toBlk g) (w2.alloc (.cells #[.int .i64 0, .int .i64 0, .int .i64 0] 77)) nr mr ((HR.out.kept k2 (.inl (Nat.le_refl _))).kept (Kept.alloc0 w2 (.cells #[.int .i64 0, .int .i64 0, .int .i64 0] 77)) (.inl (Nat.le_refl _)))).mono ?_)); rintro e w3 ⟨u3, rfl, ho, hk⟩; have c3 : Kept 0 0 w2 w3 := (Kept.alloc0 w2 (.cells #[.int .i64 0, .int .i64 0, .int .i64 0] 77)).trans hk; have k3 : Kept 0 0 w w3 := k2.trans c3; have B3 := B2.kept c3 (.inl (Nat.le_refl _)); have z3 := c3.size; have P2 := O2.kept c3 (.inl (Nat.le_refl _)); have X3 : Blk w3 w2.heap.size 77 #[.int .i64 0, .int .i64 0, .int .i64 0] := (Blk.new w2 77 _).kept hk (.inl (Nat.le_refl _)); have x3 : w2.heap.size < (w2.alloc (.cells #[.int .i64 0, .int .i64 0, .int .i64 0] 77)).heap.size := (by simp); have y3 := hk.size; have zz3 := k2.size; have O3 := ho; have q0 := X3.cell 0; have q1 := X3.cell 1; have q2 := X3.cell 2; have f0 := X3.frozen 0; have f1 := X3.frozen 1; have f2 := X3.frozen 2; clear hk ho)
        | (go_at_call 51; have _o := O2; ((with_reducible refine (IH.out.at_ r (toBlk g) w2 nr mr (HR.out.kept k2 (.inl (Nat.le_refl _)))).mono ?_)); rintro e w3 ⟨u3, rfl, ho, hk⟩; have c3 : Kept 0 0 w2 w3 := hk; have k3 : Kept 0 0 w w3 := k2.trans c3; have B3 := B2.kept c3 (.inl (Nat.le_refl _)); have z3 := c3.size; have P2 := O2.kept c3 (.inl (Nat.le_refl _)); have O3 := ho; clear hk ho))
    all_goals (go_wp2_with fail; go_meet)
    all_goals first
      | exact ListSt.new k3 P2 (by omega) O3 (Nat.le_refl _)
      | exact ListSt.set k3 X3 (by omega) P2 (by omega) (by omega) O3 (Nat.le_refl _) (by omega)
      | exact ListSt.set k3 X3 (by omega) P2 (by omega) (by simp; omega) O3 (Nat.le_refl _) (by simp; omega)
  case rest =>
    obtain ⟨wx, rfl⟩ : ∃ wx : World, wx = wc := ⟨_, rfl⟩
    obtain ⟨gb, lo2, hi2, lo3, hi3, rfl, X, hgb, ⟨D2, d2, rfl, o2⟩, l2, g2, ⟨D3, d3, rfl, o3⟩, l3, g3, K⟩ := hcut
    have zl : l.tree.pre.length ≤ 1000 := by rw [el.out]; exact ml
    have zr : r.tree.pre.length ≤ 1000 := by rw [er.out]; exact mr
    obtain ⟨xs, hxs⟩ : ∃ xs, xs = l.tree.pre := ⟨_, rfl⟩
    obtain ⟨ys, hys⟩ : ∃ ys, ys = r.tree.pre := ⟨_, rfl⟩
    rw [← hxs, ← hys] at EP
    rw [← hxs] at o2 zl ⊢
    rw [← hys] at o3 zr ⊢
    obtain ⟨V, hV⟩ : ∃ V, V = ((wx.setCell ⟨gb, 2, none⟩ (.int .i64 xs.length)).alloc (.cells #[.int .i64 d, .int .i64 s, .int .i64 xs.length] 77)).alloc (.cells #[.slice (some ⟨wx.heap.size, 0, none⟩) 1 1, .slice D2 xs.length d2, .slice D3 ys.length d3] 24) := ⟨_, rfl⟩
    have zx : gb < wx.heap.size := X.lt
    have k1 : Kept gb (gb + 1) wx (wx.setCell ⟨gb, 2, none⟩ (.int .i64 xs.length)) := (Kept.refl gb (gb + 1) wx).setCell (.inr ⟨Nat.le_refl _, Nat.lt_succ_self _⟩) _
    have z1 : (wx.setCell ⟨gb, 2, none⟩ (.int .i64 xs.length)).heap.size = wx.heap.size := by simp
    have k2 : Kept 0 0 (wx.setCell ⟨gb, 2, none⟩ (.int .i64 xs.length)) V := by rw [hV]; exact (Kept.alloc0 _ _).alloc _
    have zV : V.heap.size = wx.heap.size + 2 := by rw [hV]; simp
    have KV := Lib.hid ((K.trans2 k1 (.inr hgb)).trans k2)
    have S2 : SL twR V V.heap.size D2 d2 xs := ((OwnZ.sl (R := twR) ((o2.kept k1 (by omega)).kept k2 (.inl (Nat.le_refl _)))).2).wide (by omega)
    have S3 : SL twR V V.heap.size D3 d3 ys := ((OwnZ.sl (R := twR) ((o3.kept k1 (by omega)).kept k2 (.inl (Nat.le_refl _)))).2).wide (by omega)
    have R1 : OwnZ V wx.heap.size (wx.heap.size + 1) 77 3 (some ⟨wx.heap.size, 0, none⟩) 1 1 (twR.flat [⟨d, s, xs.length⟩]) := by
      have h0 := own_lit3 (wx.setCell ⟨gb, 2, none⟩ (.int .i64 xs.length)) ⟨d, s, xs.length⟩
      rw [z1] at h0
      rw [hV]
      exact (OwnZ.mk_ h0 (Nat.lt_succ_self _)).kept (Kept.alloc0 _ _) (.inl (Nat.le_refl _))
    have S1 : SL twR V V.heap.size (some ⟨wx.heap.size, 0, none⟩) 1 [⟨d, s, xs.length⟩] := ((OwnZ.sl (R := twR) R1).2).wide (by omega)
    have MV : Hid (Many V (wx.heap.size + 1) [.slice (some ⟨wx.heap.size, 0, none⟩) 1 1, .slice D2 xs.length d2, .slice D3 ys.length d3] [[⟨d, s, xs.length⟩], xs, ys]) := by
      refine ⟨?_, rfl, ?_⟩
      · rw [hV]
        have h0 := Blk.new ((wx.setCell ⟨gb, 2, none⟩ (.int .i64 xs.length)).alloc (.cells #[.int .i64 d, .int .i64 s, .int .i64 xs.length] 77)) 24 #[.slice (some ⟨wx.heap.size, 0, none⟩) 1 1, .slice D2 xs.length d2, .slice D3 ys.length d3]
        simpa using h0
      · intro k hk
        match k, hk with
        | 0, _ => exact ⟨_, _, rfl, S1⟩
        | 1, _ => exact ⟨_, _, rfl, S2⟩
        | 2, _ => exact ⟨_, _, rfl, S3⟩
    have CC : Hid (Calls Try.prog 69 #[.slice (some ⟨wx.heap.size + 1, 0, none⟩) 3 3] V fun e w' => ∃ u, e = .returned u ∧ OwnT w' V.heap.size w'.heap.size u ([[⟨d, s, xs.length⟩], xs, ys] : List (List Tw)).flatten ∧ Kept 0 0 V w') := concat_any _ _ (wx.heap.size + 1) 3 V MV.out (by simp; omega) (by simp)
    have EF : Hid (([[⟨d, s, xs.length⟩], xs, ys] : List (List Tw)).flatten = (PT.node g d s l r).tree.pre) := by show _ = _; rw [EP.out]; simp
    have z2 := KV.out.size
    have x0 := X.cell 0
    have x1 := X.cell 1
    have x2 := X.cell 2
    have f2 := X.frozen 2
    clear hxs hys k1 k2 z1 zV S1 S2 S3 R1 MV o2 o3 X K EP
    go_wp2_with fail
    rw [← hV]
    with_reducible refine CC.out.mono ?_
    rintro e w4 ⟨u, rfl, ho, hk⟩
    have O4 := Lib.hid ho
    have K4 := Lib.hid (KV.out.trans hk)
    clear ho hk hV
    go_wp2_with fail
    go_ret
    exact ⟨u, rfl, by rw [← EF.out]; exact O4.out.wide z2 (Nat.le_refl _), K4.out⟩
theorem list_does (n : Nat) : ListDoes n := by
  induction n with
  | zero =>
    intro t par w hn hm h
    cases t with
    | nil => exact list_nil w
    | node => simp [PT.size] at hn
  | succ n ih =>
    intro t par w hn hm h
    cases t with
    | nil => exact list_nil w
    | node g d s l r => exact list_node ih g d s l r par w hn hm h
theorem listOf_any (t : PT) (par : Value) (w : World) (hn : t.size ≤ 1000) (h : Lay w par t) :
    Calls Try.prog 51 #[t.ptr] w fun e w' => ∃ u, e = .returned u ∧ OwnT w' w.heap.size w'.heap.size u t.tree.pre ∧ Kept 0 0 w w' := (list_does t.size).at_ t par w (Nat.le_refl _) hn h
end Go.Proofs.Ytnphjohmkjoefaa
