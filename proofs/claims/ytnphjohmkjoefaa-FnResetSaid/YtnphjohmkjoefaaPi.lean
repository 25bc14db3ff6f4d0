/- The program's linking of a list into a heap: it is linked if and only if the list is a heap in preorder, in new memory; condition: at most 1000 elements, the list can be read. -/
import Derived.Test.YtnphjohmkjoefaaPh
namespace Go.Proofs.Ytnphjohmkjoefaa
open Go.RowKit Go.Sort

section
variable {w : World} {B c : Nat} {A : Option Addr} {ad : Addr} {xs : List Tw}
theorem SL.from (h : SL twR w B (some ad) c xs) {n : Nat} (hn : n ≤ xs.length) : SL twR w B (some (ad.add (n * 3))) (c - n) (xs.drop n) := by
  have hc := h.cap
  have hm := h.max
  have := h.part (i := n) (m := xs.length - n) (c' := c - n) (by omega) (by omega) (by omega)
  rw [List.take_of_length_le (by simp)] at this
  exact this
theorem SL.empty (h : SL twR w B Option.none c xs) : xs = [] := by
  cases xs with
  | nil => rfl
  | cons x r => obtain ⟨ad, h, _⟩ := h.rd.2 (by simp); cases h
theorem SL.upto (h : SL twR w B A c xs) {n : Nat} (hn : n ≤ xs.length) : SL twR w B A c (xs.take n) := by
  have hc := h.cap
  cases A with
  | none =>
    have hz : xs = [] := by
      cases xs with
      | nil => rfl
      | cons x r => obtain ⟨ad, h, _⟩ := h.rd.2 (by simp); cases h
    subst hz
    simp only [List.take_nil]
    exact SL.none _ _ _ _ h.max
  | some ad =>
    have := h.part (i := 0) (m := n) (c' := c) (by omega) (by omega) h.max
    simpa [Addr.add] using this
end
/-- A list that is linked, in new memory. -/
structure Linked (t : PT) (w w' : World) (xs : List Tw) : Prop where
  lay : Lay w' (.pointer none) t
  pre : t.tree.pre = xs
  ok : t.tree.ok = true
  nd : t.blocks.Nodup
  new : ∀ g ∈ t.blocks, w.heap.size ≤ g
theorem Linked.size {t : PT} {w w' : World} {xs : List Tw} (h : Linked t w w' xs) : t.size = xs.length := by rw [← h.pre, HTree.pre_len, PT.size_tree]
theorem Linked.rank {t : PT} {w w' : World} {xs : List Tw} (h : Linked t w w' xs) : (t.rank : Int) = rankL xs := by rw [← h.pre, rankL_pre _ h.ok, PT.rank_tree]
def LinkPost (xs : List Tw) (w : World) (e : Ending) (w' : World) : Prop :=
  Kept 0 0 w w' ∧ ∃ p, e = .returned (.tuple #[.pointer p, .bool (decide (0 ≤ rankL xs))]) ∧ (0 ≤ rankL xs → ∃ t : PT, p = t.adr ∧ Linked t w w' xs)
def LinkDoes (n : Nat) : Prop := ∀ (xs : List Tw) (A : Option Addr) (c B : Nat) (w : World), xs.length ≤ n → xs.length ≤ 1000 → B ≤ w.heap.size → SL twR w B A c xs → Calls Try.prog 62 #[.slice A xs.length c] w (LinkPost xs w)
theorem LinkDoes.at_ {n : Nat} (h : LinkDoes n) (xs : List Tw) (A : Option Addr) (c B : Nat) (w : World) (h1 : xs.length ≤ n) (h2 : xs.length ≤ 1000) (hB : B ≤ w.heap.size) (h3 : SL twR w B A c xs) : Calls Try.prog 62 #[.slice A xs.length c] w (LinkPost xs w) := h xs A c B w h1 h2 hB h3
theorem ret_pb {p : Option Addr} {b b' : Bool} (h : b = b') : Ending.returned (.tuple #[.pointer p, .bool b]) = .returned (.tuple #[.pointer p, .bool b']) := by rw [h]
set_option maxHeartbeats 400000 in
theorem link_nil (A : Option Addr) (c : Nat) (w : World) : Calls Try.prog 62 #[.slice A 0 c] w (LinkPost [] w) := by
  have E : Hid (decide (0 ≤ rankL []) = true) := by show _ = _; rw [rankL_nil]; rfl
  go_enter Try.func62, Try.ntmps62
  go_wp2_with fail
  go_ret2
  exact ⟨Kept.refl _ _ _, none, ret_pb E.out.symm, fun _ => ⟨.nil, rfl, trivial, rfl, rfl, by simp [PT.blocks], by simp [PT.blocks]⟩⟩

/-- Behind the first statement: the root in a box, the others as a slice. -/
def RootSt (w : World) (B : Nat) (x : Tw) (r : List Tw) (p v : Value) (wx : World) : Prop :=
  ∃ A c, p = toBlk w.heap.size ∧ v = .slice A r.length c ∧ SL twR wx B A c r ∧ Blk wx w.heap.size 77 #[.int .i64 x.due, .int .i64 x.seq, .int .i64 x.lefts] ∧ Kept 0 0 w wx

theorem rank_bad {x : Tw} {r : List Tw} (h : ¬ (0 ≤ x.lefts ∧ x.lefts ≤ r.length)) : decide (0 ≤ rankL (x :: r)) = false := by rw [rankL_cons, if_neg h]; rfl
theorem rank_parts {x : Tw} {r : List Tw} {n : Nat} (hx : x.lefts = n) (hn : n ≤ r.length) : rankL (x :: r) =
    if headOk x (r.take n) && headOk x (r.drop n) then (if rankL (r.take n) < 0 ∨ rankL (r.drop n) < 0 ∨ rankL (r.take n) < rankL (r.drop n) then -1 else rankL (r.drop n) + 1) else -1 := by
  rw [rankL_cons, if_pos (by omega), hx, Int.toNat_natCast]
theorem rank_bad2 {x : Tw} {r : List Tw} {n : Nat} (hx : x.lefts = n) (hn : n ≤ r.length) (h : rankL (r.take n) < 0 ∨ rankL (r.drop n) < 0 ∨ rankL (r.take n) < rankL (r.drop n)) : decide (0 ≤ rankL (x :: r)) = false := by
  rw [rank_parts hx hn]
  split
  · first | rfl | (rw [if_pos h]; rfl)
  · rfl
theorem rank_good {x : Tw} {r : List Tw} {n : Nat} (hx : x.lefts = n) (hn : n ≤ r.length) (h : ¬ (rankL (r.take n) < 0 ∨ rankL (r.drop n) < 0 ∨ rankL (r.take n) < rankL (r.drop n))) : decide (0 ≤ rankL (x :: r)) = (headOk x (r.take n) && headOk x (r.drop n)) := by
  rw [rank_parts hx hn]
  cases headOk x (r.take n) && headOk x (r.drop n)
  · rfl
  · rw [if_pos rfl, if_neg h, decide_eq_true_eq]; omega
/-- The new root over both sides. -/
theorem Linked.root {x : Tw} {r : List Tw} {n g : Nat} {t1 t2 : PT} {w w2 w3 w' : World} (hx : x.lefts = n) (hn : n ≤ r.length) (h1 : Linked t1 w w2 (r.take n)) (h2 : Linked t2 w2 w3 (r.drop n)) (hr : ¬ t1.rank < t2.rank) (hu1 : t1.tree.under x.due x.seq = true) (hu2 : t2.tree.under x.due x.seq = true)
    (hg : w.heap.size ≤ g) (hz : w.heap.size ≤ w2.heap.size) (hnd : (g :: (t1.blocks ++ t2.blocks)).Nodup) (hl : Lay w' (.pointer none) (.node g x.due x.seq t1 t2)) : Linked (.node g x.due x.seq t1 t2) w w' (x :: r) := by
  refine ⟨hl, ?_, ?_, hnd, ?_⟩
  · show (⟨x.due, x.seq, t1.tree.size⟩ : Tw) :: (t1.tree.pre ++ t2.tree.pre) = x :: r
    rw [h1.pre, h2.pre, List.take_append_drop, PT.size_tree, h1.size]
    have : (r.take n).length = n := by simp; omega
    rw [this, ← hx]
  · show (HTree.under x.due x.seq t1.tree && HTree.under x.due x.seq t2.tree && decide (t2.tree.rank ≤ t1.tree.rank) && t1.tree.ok && t2.tree.ok) = true
    rw [hu1, hu2, h1.ok, h2.ok, PT.rank_tree, PT.rank_tree]
    simp; omega
  · intro y hy
    simp only [PT.blocks, List.mem_cons, List.mem_append] at hy
    rcases hy with rfl | hy | hy
    · exact hg
    · exact h1.new y hy
    · exact Nat.le_trans hz (h2.new y hy)

theorem rootSL {w w' : World} {B c : Nat} {ad : Addr} {x : Tw} {r : List Tw} (h : SL twR w B (some ad) c (x :: r)) (hk : Kept 0 0 w w') (hB : B ≤ w.heap.size) : SL twR w' B (some (ad.add 3)) (c - 1) r := by
  have h1 := h.cap
  have h2 := h.max
  simp only [List.length_cons] at h1
  have := (h.kept hB hk (.inl (Nat.le_refl _))).part (i := 1) (m := r.length) (c' := c - 1) (by simp; omega) (by omega) (by omega)
  simpa [twR_k] using this
/-- Behind a linking: whether it is one, and the heap. -/
def SideSt (w : World) (xs : List Tw) (vp vb : Value) (wx : World) : Prop := Kept 0 0 w wx ∧ ∃ p, vp = .pointer p ∧ vb = .bool (decide (0 ≤ rankL xs)) ∧ (0 ≤ rankL xs → ∃ t : PT, p = t.adr ∧ Linked t w wx xs)
set_option maxHeartbeats 6400000 in
set_option maxRecDepth 100000 in
theorem link_cons {m : Nat} (ih : LinkDoes m) (x : Tw) (r : List Tw) (A : Option Addr) (c B : Nat) (w : World) (hn : r.length ≤ m) (hl : r.length + 1 ≤ 1000) (hB : B ≤ w.heap.size) (h : SL twR w B A c (x :: r)) :
    Calls Try.prog 62 #[.slice A (r.length + 1) c] w (LinkPost (x :: r) w) := by
  obtain ⟨ad, rfl, hb, c0, c1, c2⟩ := h.rd.head
  have hc := h.cap
  have hcm := h.max
  simp only [List.length_cons] at hc
  unfold maxLen at hcm
  have H := Lib.hid h
  have IH := Lib.hid ih
  have ga : Hid (SL twR w B (some ad) c (x :: r)) := h
  clear h ih
  go_enter Try.func62, Try.ntmps62
  go_upto_region 3 with fail
  go_cut [4, 5] (fun p v wx => RootSt w B x r p v wx)
  case first =>
    have p0 : (1 : Int) ≤ (r.length : Int) + 1 := by omega
    have p1 : (r.length : Int) + 1 ≤ (c : Int) := by omega
    have hne : ad.block ≠ w.heap.size := by omega
    have d0 : ∀ o, (w.alloc o).cell? ad = some (.int .i64 x.due) := fun o => cell_kept (Kept.alloc0 w o) c0
    have d1 : ∀ o, (w.alloc o).cell? ⟨ad.block, ad.off + 1, none⟩ = some (.int .i64 x.seq) := fun o => cell_kept (Kept.alloc0 w o) c1
    have d2 : ∀ o, (w.alloc o).cell? ⟨ad.block, ad.off + 2, none⟩ = some (.int .i64 x.lefts) := fun o => cell_kept (Kept.alloc0 w o) c2
    by_cases e1 : c = 1
    · subst e1
      obtain rfl : r = [] := List.eq_nil_of_length_eq_zero (by omega)
      simp only [List.length_nil] at *
      go_region
      all_goals (go_wp2_with fail; go_meet)
      all_goals exact ⟨_, _, rfl, rfl, SL.none _ _ _ _ (by unfold maxLen; omega), Blk.new _ _ _, ((Kept.refl 0 0 w).alloc _).drew⟩
    · have e2 : ¬ (c : Int) = 1 := by omega
      go_region
      all_goals (go_wp2_with fail; go_meet)
      all_goals exact ⟨_, _, rfl, rfl, rootSL H.out ((Kept.refl 0 0 w).alloc _).drew hB, Blk.new _ _ _, ((Kept.refl 0 0 w).alloc _).drew⟩
  case rest =>
    obtain ⟨wx, rfl⟩ : ∃ wx : World, wx = wc := ⟨_, rfl⟩
    obtain ⟨A1, c1', rfl, rfl, sl, bx, kx⟩ := hcut
    have S1 := Lib.hid sl
    have X1 := Lib.hid bx
    have K1 := Lib.hid kx
    have z1 := kx.size
    have hc1 := sl.cap
    have hm1 := sl.max
    unfold maxLen at hm1
    clear sl bx kx c0 c1 c2 ga H
    by_cases hr : 0 ≤ x.lefts ∧ x.lefts ≤ r.length
    · obtain ⟨n, hxn⟩ := Int.eq_ofNat_of_zero_le hr.1
      have hnr : n ≤ r.length := by omega
      have XN := Lib.hid hxn
      have x0 : wx.cell? ⟨w.heap.size, 0, none⟩ = some (.int .i64 x.due) := X1.out.cell 0
      have x1 : wx.cell? ⟨w.heap.size, 1, none⟩ = some (.int .i64 x.seq) := X1.out.cell 1
      have x2 : wx.cell? ⟨w.heap.size, 2, none⟩ = some (.int .i64 n) := by have := X1.out.cell 2; rw [← hxn]; exact this
      have p0 : ¬ (n : Int) < 0 := by omega
      have p1 : ¬ (r.length : Int) < (n : Int) := by omega
      have p2 : (n : Int) ≤ (r.length : Int) := by omega
      have lt1 : (r.take n).length ≤ m := by simp; omega
      have lt2 : (r.take n).length ≤ 1000 := by simp; omega
      have ld1 : (r.drop n).length ≤ m := by simp; omega
      have ld2 : (r.drop n).length ≤ 1000 := by simp; omega
      have CL : Hid (Calls Try.prog 62 #[.slice A1 n c1'] wx (LinkPost (r.take n) wx)) := by
        have h0 := IH.out.at_ (r.take n) A1 c1' B wx lt1 lt2 (Nat.le_trans hB z1) (S1.out.upto hnr)
        rw [show (r.take n).length = n by simp; omega] at h0
        exact h0
      have p3 : (n : Int) ≤ (c1' : Int) := by omega
      clear hr hxn
      go_wp2_with fail
      with_reducible refine CL.out.mono ?_
      rintro e w2 ⟨k2, p, rfl, h2⟩
      have K2 := Lib.hid k2
      have H2 := Lib.hid h2
      clear k2 h2 x0 x1 x2
      have K12 := Lib.hid (K1.out.trans K2.out)
      have z2 := K2.out.size
      have X2 := Lib.hid (X1.out.kept K2.out (.inl (Nat.le_refl _)))
      have x2 : w2.cell? ⟨w.heap.size, 2, none⟩ = some (.int .i64 n) := by have := X2.out.cell 2; rw [← XN.out]; exact this
      have S3 := Lib.hid (S1.out.kept (by omega) K2.out (.inl (Nat.le_refl _)))
      clear CL
      go_upto_region 7 with fail
      go_cut [8, 9] (fun vp vb wx => SideSt w2 (r.drop n) vp vb wx)
      case first =>
        by_cases e1 : c1' = n ∨ A1 = none
        · have em : r.length ≤ n := by
            rcases e1 with e1 | e1
            · omega
            · have := S3.out; rw [e1] at this; rw [this.empty]; simp
          have CR : Hid (∀ A' m' k, m' = 0 → Calls Try.prog 62 #[.slice A' m' k] w2 (LinkPost (r.drop n) w2)) := by
            intro A' m' k h0
            rw [h0, List.drop_of_length_le (by omega)]
            exact link_nil A' k w2
          clear S1 S3
          rcases e1 with e1 | e1
          · subst e1
            go_wp2_with fail
            with_reducible refine (CR.out _ _ _ (by first | rfl | omega)).mono ?_
            rintro e w3 ⟨k3, q, rfl, h3⟩
            have K3 := Lib.hid k3
            have H3 := Lib.hid h3
            clear k3 h3
            go_wp2_with fail
            go_meet
            exact ⟨K3.out, q, rfl, rfl, H3.out⟩
          · subst e1
            by_cases e2 : c1' = n
            · subst e2
              go_wp2_with fail
              with_reducible refine (CR.out _ _ _ (by first | rfl | omega)).mono ?_
              rintro e w3 ⟨k3, q, rfl, h3⟩
              have K3 := Lib.hid k3
              have H3 := Lib.hid h3
              clear k3 h3
              go_wp2_with fail
              go_meet
              exact ⟨K3.out, q, rfl, rfl, H3.out⟩
            · go_wp2_with fail
              with_reducible refine (CR.out _ _ _ (by first | rfl | omega)).mono ?_
              rintro e w3 ⟨k3, q, rfl, h3⟩
              have K3 := Lib.hid k3
              have H3 := Lib.hid h3
              clear k3 h3
              go_wp2_with fail
              go_meet
              exact ⟨K3.out, q, rfl, rfl, H3.out⟩
        · obtain ⟨e2, e3⟩ := not_or.1 e1
          cases A1 with
          | none => exact absurd rfl e3
          | some ad' =>
            have CR : Hid (Calls Try.prog 62 #[.slice (some (ad'.add (n * 3))) (r.length - n) (c1' - n)] w2 (LinkPost (r.drop n) w2)) := by
              have h0 := IH.out.at_ (r.drop n) _ _ B w2 ld1 ld2 (by omega) (S3.out.from hnr)
              rw [List.length_drop] at h0
              exact h0
            clear e1 e3 S3 S1
            go_wp2_with fail
            with_reducible refine CR.out.mono ?_
            rintro e w3 ⟨k3, q, rfl, h3⟩
            have K3 := Lib.hid k3
            have H3 := Lib.hid h3
            clear k3 h3
            go_wp2_with fail
            go_meet
            exact ⟨K3.out, q, rfl, rfl, H3.out⟩
      case rest =>
      obtain ⟨w3, rfl⟩ : ∃ w3 : World, w3 = wc := ⟨_, rfl⟩
      obtain ⟨k3, q, rfl, rfl, h3⟩ := hcut
      have K3 := Lib.hid k3
      have H3 := Lib.hid h3
      clear k3 h3 x2 S3
      have K13 := Lib.hid (K12.out.trans K3.out)
      have z3 := K3.out.size
      have X3 := Lib.hid (X2.out.kept K3.out (.inl (Nat.le_refl _)))
      clear X2 X1
      by_cases b1 : 0 ≤ rankL (r.take n)
      · by_cases b2 : 0 ≤ rankL (r.drop n)
        · obtain ⟨t1, rfl, L1⟩ := H2.out b1
          obtain ⟨t2, rfl, L2⟩ := H3.out b2
          have q1 : decide (0 ≤ rankL (r.take n)) = true := decide_eq_true b1
          have q2 : decide (0 ≤ rankL (r.drop n)) = true := decide_eq_true b2
          rw [q1, q2]
          have LA := Lib.hid L1
          have LB := Lib.hid L2
          have ya := Lib.hid (L1.lay.kept K3.out (.inl (Nat.le_refl _)))
          have s1 := L1.size
          have s2 := L2.size
          have r1 : t1.rank ≤ 1000 := by have := t1.rank_size; omega
          have r2 : t2.rank ≤ 1000 := by have := t2.rank_size; omega
          have RA := Lib.hid L1.rank
          have RB := Lib.hid L2.rank
          have BB := Lib.hid b1
          have BC := Lib.hid b2
          clear L1 L2 s1 s2 H2 H3 b1 b2 q1 q2
          go_wp2_with fail
          with_reducible refine (rankP_any t1 _ w3 ya.out r1).mono ?_
          rintro e w' ⟨rfl, rfl⟩
          go_wp2_with fail
          with_reducible refine (rankP_any t2 _ w3 LB.out.lay r2).mono ?_
          rintro e w' ⟨rfl, rfl⟩
          by_cases hk : t1.rank < t2.rank
          · have g1 : decide (t1.rank < t2.rank) = true := by simpa using hk
            have E := Lib.hid (rank_bad2 XN.out hnr (.inr (.inr (by rw [← RA.out, ← RB.out]; omega))))
            clear hk
            go_wp2_with fail
            go_ret2
            exact ⟨K13.out, none, ret_pb E.out.symm, fun hh => by have := E.out; simp at this; omega⟩
          · have g1 : decide (t1.rank < t2.rank) = false := by simpa using hk
            have E := Lib.hid (rank_good XN.out hnr (by have := BB.out; have := BC.out; rw [← RA.out, ← RB.out]; omega))
            rw [← LA.out.pre, ← LB.out.pre] at E
            have E1 := Lib.hid (headOk_pre x.due x.seq x.lefts t1.tree)
            have E2 := Lib.hid (headOk_pre x.due x.seq x.lefts t2.tree)
            have EJ : Hid (joinP w3.heap.size x.due x.seq t1 t2 = .node w3.heap.size x.due x.seq t1 t2) := by show _ = _; rw [joinP, if_neg hk]
            have HK := Lib.hid hk
            have x0 : w3.cell? ⟨w.heap.size, 0, none⟩ = some (.int .i64 x.due) := X3.out.cell 0
            have x1 : w3.cell? ⟨w.heap.size, 1, none⟩ = some (.int .i64 x.seq) := X3.out.cell 1
            obtain ⟨V, hV⟩ : ∃ V, V = w3.alloc (.cells #[.int .i64 x.due, .int .i64 x.seq, .pointer none, .pointer none, .pointer none] 61) := ⟨_, rfl⟩
            have KV : Hid (Kept 0 0 w3 V) := by show Kept _ _ _ _; rw [hV]; exact Kept.alloc0 _ _
            have BV : Hid (Blk V w3.heap.size 61 #[.int .i64 x.due, .int .i64 x.seq, .pointer none, .pointer none, .pointer none]) := by show Blk _ _ _ _; rw [hV]; exact Blk.new _ _ _
            have NV : Hid ((w3.heap.size :: (t1.blocks ++ t2.blocks)).Nodup) := by
              refine List.nodup_cons.2 ⟨?_, List.nodup_append.2 ⟨LA.out.nd, LB.out.nd, ?_⟩⟩
              · intro hy
                rcases List.mem_append.1 hy with hy | hy
                · exact Nat.lt_irrefl _ (ya.out.lt _ hy)
                · exact Nat.lt_irrefl _ (LB.out.lay.lt _ hy)
              · intro a ha b hb e
                subst e
                have := LA.out.lay.lt a ha
                have := LB.out.new a hb
                omega
            have CJ := Lib.hid (joinP_any w3.heap.size x.due x.seq _ _ _ t1 t2 _ _ V BV.out (ya.out.kept KV.out (.inl (Nat.le_refl _))) (LB.out.lay.kept KV.out (.inl (Nat.le_refl _))) NV.out r1 r2)
            have SV : Hid (∀ y ∈ w3.heap.size :: (t1.blocks ++ t2.blocks), w.heap.size ≤ y) := by
              intro y hy
              simp only [List.mem_cons, List.mem_append] at hy
              rcases hy with rfl | hy | hy
              · omega
              · have := LA.out.new y hy; omega
              · have := LB.out.new y hy; omega
            clear hk
            go_wp2_with fail
            rw [← hV]
            with_reducible refine CJ.out.mono ?_
            rintro e w4 ⟨rfl, l4, t4⟩
            rw [EJ.out] at l4
            have L4 := Lib.hid l4
            have K4 := Lib.hid ((K13.out.trans KV.out).turned t4 SV.out)
            have C1 := Lib.hid (mayLeadP_any w3.heap.size x.due x.seq _ _ _ (toBlk w3.heap.size) t1 w4 l4.1 l4.2.1)
            clear l4 t4 hV x0 x1 CJ KV BV
            go_wp2_with fail
            with_reducible refine C1.out.mono ?_
            rintro e w5 ⟨rfl, t5⟩
            have L5 := Lib.hid (L4.out.turned t5 (by simp))
            have K5 := Lib.hid (K4.out.turned t5 (by simp))
            clear t5 C1 L4 K4
            have C2 := Lib.hid (mayLeadP_any w3.heap.size x.due x.seq _ _ _ (toBlk w3.heap.size) t2 w5 L5.out.1 L5.out.2.2)
            cases hu : t1.tree.under x.due x.seq
            · have E3 : Hid (decide (0 ≤ rankL (x :: r)) = false) := by show _ = _; rw [E.out, show x = ⟨x.due, x.seq, x.lefts⟩ from rfl, E1.out, hu]; rfl
              clear hu
              go_wp2_with fail
              go_ret2
              exact ⟨K5.out, _, ret_pb E3.out.symm, fun hh => by have := E3.out; simp at this; omega⟩
            · have E3 : Hid (decide (0 ≤ rankL (x :: r)) = t2.tree.under x.due x.seq) := by show _ = _; rw [E.out, show x = ⟨x.due, x.seq, x.lefts⟩ from rfl, E1.out, E2.out, hu]; rfl
              have HU := Lib.hid hu
              clear hu
              go_wp2_with fail
              with_reducible refine C2.out.mono ?_
              rintro e w6 ⟨rfl, t6⟩
              have L6 := Lib.hid (L5.out.turned t6 (by simp))
              have K6 := Lib.hid (K5.out.turned t6 (by simp))
              clear t6 C2 L5 K5
              go_wp2_with fail
              go_ret2
              refine ⟨K6.out, _, ret_pb E3.out.symm, fun hh => ⟨_, rfl, Linked.root XN.out hnr ⟨LA.out.lay, LA.out.pre, LA.out.ok, LA.out.nd, fun y hy => Nat.le_trans z1 (LA.out.new y hy)⟩ LB.out HK.out HU.out ?_ (by omega) (by omega) NV.out L6.out⟩⟩
              rw [← E3.out]
              exact decide_eq_true hh
        · have q1 : decide (0 ≤ rankL (r.take n)) = true := decide_eq_true b1
          have q2 : decide (0 ≤ rankL (r.drop n)) = false := decide_eq_false b2
          have E := Lib.hid (rank_bad2 XN.out hnr (.inr (.inl (by omega))))
          rw [q1, q2]
          clear b1 b2 q1 q2 H2 H3
          go_wp2_with fail
          go_ret2
          exact ⟨K13.out, none, ret_pb E.out.symm, fun hh => by have := E.out; simp at this; omega⟩
      · have q1 : decide (0 ≤ rankL (r.take n)) = false := decide_eq_false b1
        have E := Lib.hid (rank_bad2 XN.out hnr (.inl (by omega)))
        rw [q1]
        clear b1 q1 H2 H3
        go_wp2_with fail
        go_ret2
        exact ⟨K13.out, none, ret_pb E.out.symm, fun hh => by have := E.out; simp at this; omega⟩
    · have E := Lib.hid (rank_bad hr)
      have x2 : wx.cell? ⟨w.heap.size, 2, none⟩ = some (.int .i64 x.lefts) := X1.out.cell 2
      by_cases hneg : x.lefts < 0
      · clear hr
        go_wp2_with fail
        go_ret2
        exact ⟨K1.out, none, ret_pb E.out.symm, fun hh => by have := E.out; simp at this; omega⟩
      · have hbig : (r.length : Int) < x.lefts := by omega
        clear hr
        go_wp2_with fail
        go_ret2
        exact ⟨K1.out, none, ret_pb E.out.symm, fun hh => by have := E.out; simp at this; omega⟩
theorem link_does (m : Nat) : LinkDoes m := by
  induction m with
  | zero =>
    intro xs A c B w hn hl hB h
    obtain rfl : xs = [] := List.eq_nil_of_length_eq_zero (by omega)
    exact link_nil A c w
  | succ m ih =>
    intro xs A c B w hn hl hB h
    cases xs with
    | nil => exact link_nil A c w
    | cons x r => exact link_cons ih x r A c B w (by simpa using hn) (by simpa using hl) hB h
theorem linked_any (xs : List Tw) (A : Option Addr) (c B : Nat) (w : World) (hl : xs.length ≤ 1000) (hB : B ≤ w.heap.size) (h : SL twR w B A c xs) : Calls Try.prog 62 #[.slice A xs.length c] w (LinkPost xs w) := (link_does _).at_ xs A c B w (Nat.le_refl _) hl hB h
end Go.Proofs.Ytnphjohmkjoefaa
