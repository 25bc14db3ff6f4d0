/- The draws of lists of events: a list of a tree's events, a tree with a list; each turns nothing old but the cursor; condition: the code can be read and has at most 4096 bytes. -/
import Derived.Test.YtgahjachkeoflaaDoorYb
namespace Go.Proofs.YtgahjachkeoflaaDoor
open Go.RowKit Go.Sort

/-- What a draw of a list of events leaves. -/
def DrawnL (g : Nat) (A : Option Addr) (c : Nat) (xs : List Int) (w : World) (e : Ending) (w' : World) : Prop :=
  ∃ (u : Value) (l : List Ev), e = .returned u ∧ OwnEv w' w.heap.size w'.heap.size u l ∧ l.length ≤ 61 ∧ Cur w' g A c xs ∧ Kept g (g + 1) w w'

set_option maxHeartbeats 3200000 in
theorem drawList_any (xs : List Int) (A : Option Addr) (c g : Nat) (t : List Nd) (v : Value) (lo hi : Nat) (w : World) (h : Cur w g A c xs) (ht : OwnNd w lo hi v t) (hg : g < lo) (hh : hi ≤ w.heap.size) (h1 : 1 ≤ t.length) (h2 : t.length ≤ 60) :
    Calls Tryd.prog 62 #[.pointer (some ⟨g, 0, none⟩), v] w (DrawnL g A c xs w) := by
  have gl := h.lt
  have HT := Lib.hid ht
  clear ht
  obtain ⟨W, hW⟩ : ∃ W, W = w.alloc (.cells #[] 27) := ⟨_, rfl⟩
  have kW : Kept 0 0 w W := by rw [hW]; exact Kept.alloc0 _ _
  have C0 := Lib.hid (h.kept kW (.inl (Nat.le_refl _)))
  have B0 : Hid (Blk W w.heap.size 27 #[]) := by show Blk _ _ _ _; rw [hW]; exact Blk.new _ _ _
  have K0 : Hid (Kept g (g + 1) w W) := kW.wide (.inl (Nat.le_refl _))
  have HW := Lib.hid hW
  clear hW h kW
  go_enter Tryd.func62, Tryd.ntmps62
  go_wp2_with fail
  rw [← HW.out]
  with_reducible refine (below_any _ _ _ _ _ _ C0.out (by omega) (by omega)).mono ?_
  rintro e w1 ⟨q0, rfl, -, hc, hk⟩
  have C1 := Lib.hid hc
  have B1 := Lib.hid (B0.out.kept hk (by omega))
  have K1 := Lib.hid (K0.out.trans hk)
  clear hc hk C0 B0 K0 HW
  go_wp2_with fail
  with_reducible refine (below_any _ _ _ _ _ _ C1.out (by omega) (by omega)).mono ?_
  rintro e w2 ⟨n0, rfl, ⟨hn0, hn1⟩, hc, hk⟩
  obtain ⟨n, rfl⟩ := Int.eq_ofNat_of_zero_le hn0
  have C2 := Lib.hid hc
  have K2 := Lib.hid (K1.out.trans hk)
  have O2 : Hid (OwnEv w2 w.heap.size w2.heap.size (.slice (some ⟨w.heap.size, 0, none⟩) 0 0) []) := by
    have b2 := B1.out.kept hk (by omega)
    exact ⟨_, 0, rfl, OwnZ.mk_ (own_emptyZ b2 (Nat.le_refl _)) b2.lt⟩
  clear hc hk C1 B1 K1
  go_wp2_with fail
  go_loopw [5, 6, 7] (fun lv tv nv wr => ∃ (l : List Ev) (q : Int) (m : Nat), tv = .int .i64 q ∧ nv = .int .i64 m ∧ m ≤ 10 ∧ l.length ≤ 61 ∧ Hid (OwnEv wr w.heap.size wr.heap.size lv l) ∧ Hid (Cur wr g A c xs) ∧ Hid (Kept g (g + 1) w wr)) (fun _ _ i _ => (intOf i).toNat)
  case atStart => exact ⟨[], q0, n, rfl, rfl, by omega, by simp, O2, C2, K2⟩
  case round =>
    clear O2 C2 K2
    obtain ⟨l, q, m, rfl, rfl, hm, hl, OL, HC, HK⟩ := hrel
    by_cases hm0 : 0 < m
    · obtain ⟨m', rfl⟩ : ∃ m', m = m' + 1 := ⟨m - 1, by omega⟩
      have i1 : (0 : Int) < ((m' + 1 : Nat) : Int) := by omega
      have zr := HK.out.size
      go_wp2_with fail
      with_reducible refine (drawEvent_any xs A c g t q v lo hi wr HC.out (HT.out.kept HK.out (by omega)) hg (by omega) h1 h2).mono ?_
      rintro e w3 ⟨x, rfl, hc, hk⟩
      have z3 := hk.size
      obtain ⟨V, hV⟩ : ∃ V, V = w3.alloc (.cells #[.int .i64 x.node, .int .i64 x.err, .int .i64 x.cause, .int .i64 x.time] 27) := ⟨_, rfl⟩
      have k3 : Kept 0 0 w3 V := by rw [hV]; exact Kept.alloc0 _ _
      have CV := Lib.hid (hc.kept k3 (.inl (Nat.le_refl _)))
      have BV : Hid (Blk V w3.heap.size 27 #[.int .i64 x.node, .int .i64 x.err, .int .i64 x.cause, .int .i64 x.time]) := by show Blk _ _ _ _; rw [hV]; exact Blk.new _ _ _
      have KV := Lib.hid ((HK.out.trans hk).trans (k3.wide (.inl (Nat.le_refl _))))
      have OV := Lib.hid ((OL.out.kept hk (by omega)).kept k3 (.inl (Nat.le_refl _)))
      have zV := k3.size
      have HV := Lib.hid hV
      clear hc hk k3 hV HC HK OL
      go_wp2_with fail
      rw [← HV.out]
      have bb0 := BV.out.cell 0
      have bb1 := BV.out.cell 1
      have bb2 := BV.out.cell 2
      have bb3 := BV.out.cell 3
      go_wp2_with fail
      with_reducible refine (let6_any t l x v _ V ((HT.out.kept KV.out (by omega)).rdW (by omega)) (OV.out.rdW (by omega))).mono ?_
      rintro e w4 ⟨z, rfl, ho, hk⟩
      have C4 := Lib.hid (CV.out.kept hk (.inl (Nat.le_refl _)))
      have B4 := Lib.hid (BV.out.kept hk (.inl (Nat.le_refl _)))
      have K4 := Lib.hid (KV.out.trans (hk.wide (.inl (Nat.le_refl _))))
      have O4 := Lib.hid ((OV.out.kept hk (.inl (Nat.le_refl _))).wide (hi' := w4.heap.size) (Nat.le_refl _) (by have := hk.size; omega))
      have P4 := Lib.hid (ho.wide (lo' := w.heap.size) (by omega) (Nat.le_refl _))
      have z4 := hk.size
      have LL := letL_len t l x
      obtain ⟨l2, hl2⟩ : ∃ l2, l2 = letL t l x := ⟨_, rfl⟩
      rw [← hl2] at P4 LL
      clear ho hk CV BV KV OV HV bb0 bb1 bb2 bb3 hl2
      cases q1 : letB t l x
      · clear q1
        go_wp2
        go_roundw
        case rel => exact ⟨l, q, m', rfl, by rw [show ((m' : Nat) : Int) = ((m' + 1 : Nat) : Int) - 1 from by omega], by omega, hl, O4, C4, K4⟩
        case measure => simp [intOf]
      · clear q1
        have bb3 := B4.out.cell 3
        go_wp2_with fail
        with_reducible refine (min5_any _ _ _).mono ?_
        rintro e w' ⟨rfl, rfl⟩
        go_wp2_with fail
        with_reducible refine (maxE_any _ _ _).mono ?_
        rintro e w' ⟨rfl, rfl⟩
        obtain ⟨mt, hmt⟩ : ∃ mt, mt = maxI q (minI x.time 40) := ⟨_, rfl⟩
        rw [← hmt]
        clear hmt
        go_wp2_with fail
        with_reducible refine (below_any _ _ _ _ _ _ C4.out (by omega) (by omega)).mono ?_
        rintro e w5 ⟨r, rfl, -, hc, hk⟩
        have C5 := Lib.hid hc
        have K5 := Lib.hid (K4.out.trans hk)
        have P5 := Lib.hid ((P4.out.kept hk (by omega)).wide (hi' := w5.heap.size) (Nat.le_refl _) hk.size)
        clear hc hk C4 K4 P4 O4 B4 bb3
        go_wp2
        go_roundw
        case rel => exact ⟨l2, _, m', rfl, by rw [show ((m' : Nat) : Int) = ((m' + 1 : Nat) : Int) - 1 from by omega], by omega, LL, P5, C5, K5⟩
        case measure => simp [intOf]
    · have i1 : ¬ (0 : Int) < (m : Int) := by omega
      go_wp2
      go_ret
      exact ⟨_, l, rfl, OL.out, hl, HC.out, HK.out⟩
end Go.Proofs.YtgahjachkeoflaaDoor
