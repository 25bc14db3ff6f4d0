/- The law of chains returns true for every code of at most 4096 bytes; condition: the code can be read. -/
import Derived.Test.YtakhegamlammcaaDf
import Derived.Test.YtakhegamlammcaaOb
import Derived.Test.YtakhegamlammcaaOj
import Derived.Lib.QuietBelow
namespace Go.Proofs.Ytakhegamlammcaa
open Go.RowKit Go.Sort

theorem addr_zero (a : Addr) : a.add 0 = a := by cases a; simp [Addr.add]
theorem RdI.at_ {w : World} {B n c k : Nat} {E : Option Addr} {xs : List Int} (h : RdI w B (.slice E n c) xs) (hk : k < xs.length) : ∃ ad, E = some ad ∧ ad.block < B ∧ w.cell? (ad.add k) = some (.int .i64 xs[k]) := by
  obtain ⟨A', c', e, h⟩ := h
  injection e with e1 e2 e3
  subst e1
  exact h.rd.i hk
theorem RdNd.at_ {w : World} {B n c k : Nat} {E : Option Addr} {xs : List Nd} (h : RdNd w B (.slice E n c) xs) (hk : k < xs.length) :
    ∃ ad, E = some ad ∧ ad.block < B ∧ w.cell? (ad.add (k * 5)) = some (.int .i64 xs[k].kind) ∧ w.cell? ⟨(ad.add (k * 5)).block, (ad.add (k * 5)).off + 1, none⟩ = some (.int .i64 xs[k].up) ∧ w.cell? ⟨(ad.add (k * 5)).block, (ad.add (k * 5)).off + 2, none⟩ = some (.int .i64 xs[k].due) ∧ w.cell? ⟨(ad.add (k * 5)).block, (ad.add (k * 5)).off + 3, none⟩ = some (.int .i64 xs[k].key) ∧ w.cell? ⟨(ad.add (k * 5)).block, (ad.add (k * 5)).off + 4, none⟩ = some (.int .i64 xs[k].value) := by
  obtain ⟨A', c', e, h⟩ := h
  injection e with e1 e2 e3
  subst e1
  exact h.rd.nd hk
theorem minDue_next (t : List Nd) (xs : List Int) (k : Nat) (h : k < xs.length) : minDue t 9223372036854775807 (xs.take (k + 1)) = minI (minDue t 9223372036854775807 (xs.take k)) (ndAt t xs[k]).due := minDue_take t xs k h

set_option maxHeartbeats 6400000 in
set_option maxRecDepth 100000 in
theorem lawChains_small (xs : List Int) (A : Option Addr) (c : Nat) (w : World) (h : Rd (Value.int .u8) w w.heap.size A xs) (hx : ∀ x ∈ xs, 0 ≤ x ∧ x ≤ 255) (hl : xs.length ≤ 4096) :
    Calls Try.prog 3 #[.slice A xs.length c] w fun e w' => e = .returned (.bool true) ∧ Kept 0 0 w w' := by
  have hm := h.1
  have hbig : decide (4096 < xs.length) = false := by simpa using hl
  have H := Lib.hid h
  have HX := Lib.hid hx
  clear h hx
  go_enter Try.func3, Try.ntmps3
  go_wp2_with fail
  with_reducible refine (big_any _ _ _ _ hm).mono ?_
  rintro e w' ⟨rfl, rfl⟩
  rw [hbig]
  clear hbig
  go_wp2_with fail
  with_reducible refine (drawChainOf_any _ _ _ _ H.out HX.out hl).mono ?_
  rintro e w1 ⟨v, t, n, rfl, tl, ho, hk⟩
  have O1 := Lib.hid ho
  have K1 := Lib.hid hk
  obtain ⟨D, d, ev, -⟩ := ho
  subst ev
  clear hk H HX hm hl
  go_wp2_with fail
  with_reducible refine (implChain t n _ _ (O1.out.rdW (Nat.le_refl _))).mono ?_
  rintro e w2 ⟨u, rfl, ho, hk⟩
  have O2 := Lib.hid (O1.out.kept hk (.inl (Nat.le_refl _)))
  have L2 := Lib.hid ho
  have K2 := Lib.hid (K1.out.trans hk)
  have z2 := hk.size
  obtain ⟨E, e', eu, -⟩ := ho
  subst eu
  clear hk O1 K1
  go_wp2_with fail
  with_reducible refine (tree5_any t _ _ (O2.out.rdW (by omega))).mono ?_
  rintro e w3 ⟨rfl, hk⟩
  have O3 := Lib.hid (O2.out.kept hk (.inl (Nat.le_refl _)))
  have L3 := Lib.hid (L2.out.kept hk (.inl (Nat.le_refl _)))
  have K3 := Lib.hid (K2.out.trans hk)
  have z3 := hk.size
  clear hk O2 K2 L2
  have gl := chainL_len t n
  by_cases q : treeB t = true ∧ 0 ≤ n ∧ n < t.length
  · obtain ⟨q1, q2, q3⟩ := q
    have o := treeB_true.1 q1
    have hh : hasB t n = true := hasB_true.2 ⟨o, q2, q3⟩
    have ec : chainL t n = chainOf t n := by simp [chainL, hh]
    obtain ⟨r, hr⟩ := chain_pos o q2 q3
    have CL : Hid (∀ i (h : i < (chainL t n).length), LinkAt t (chainL t n) i h) := by
      show ∀ i h, _
      rw [ec]; exact chain_links o t.length n q3 q2 q3
    have ED : Hid (dueI t n = minDue t 9223372036854775807 (chainL t n)) := rfl
    have CD := Lib.hid (implDue t n (.slice D t.length d))
    rw [ED.out] at CD
    have l0 : 0 < (chainL t n).length := by rw [ec, hr]; simp
    have E0 : Hid ((chainL t n)[0] = n) := by show _ = _; simp [ec, hr]
    obtain ⟨l, hl⟩ : ∃ l, l = chainL t n := ⟨_, rfl⟩
    rw [← hl] at CL CD L3 gl
    rw [q1, ← hl]
    have l1 : 0 < l.length := by rw [hl]; exact l0
    have E1 : Hid (l[0] = n) := by subst hl; exact E0
    have OT := Lib.hid o
    clear ED E0 l0 hl ec hr hh o q1
    have i1 : ¬ n < 0 := by omega
    have i2 : ¬ ((t.length : Int) ≤ n) := by omega
    have i3 : ¬ ((l.length : Int) = 0) := by omega
    have i4 : ((l.length : Int) == 0) = false := by simpa using i3
    obtain ⟨ae, rfl, hae, c0⟩ := L3.out.rd.at_ l1
    rw [E1.out, addr_zero ae] at c0
    have i5 : (n != n) = false := by simp
    go_upto_region 10 with fail
    clear c0
    go_wp2_with fail
    go_loopw [6, 7] (fun p i wr => ∃ k : Nat, k ≤ l.length ∧ i = .int .i64 k ∧ p = .int .i64 (minDue t 9223372036854775807 (l.take k)) ∧ Hid (Kept 0 0 w3 wr)) (fun _ i _ => l.length - (intOf i).toNat)
    case atStart => exact ⟨0, Nat.zero_le _, rfl, rfl, Lib.hid (Kept.refl _ _ _)⟩
    case round =>
      obtain ⟨k, hk, rfl, rfl, HK⟩ := hrel
      by_cases hlt : k < l.length
      · have j1 : (k : Int) < (l.length : Int) := by omega
        have LK := CL.out k hlt
        have EM := minDue_next t l k hlt
        have zr := HK.out.size
        obtain ⟨j, hj⟩ := Int.eq_ofNat_of_zero_le LK.lo
        have hjt : j < t.length := by have := LK.hi; omega
        obtain ⟨ae', e', _, c1⟩ := (L3.out.rd.kept (by omega) HK.out (.inl (Nat.le_refl _))).at_ hlt
        injection e' with e'
        subst e'
        rw [hj] at c1
        obtain ⟨ad, rfl, had, d0, d1, d2, d3, d4⟩ := (O3.out.rd.kept (by omega) HK.out (.inl (Nat.le_refl _))).at_ hjt
        have lst := LK.last
        rw [hj, ndAt_nat t hjt] at lst EM
        have nxt := LK.next
        simp only [hj, ndAt_nat t hjt] at nxt
        have MK := mem_kids OT.out hjt
        have UP := OT.out.up hjt
        obtain ⟨x, hx⟩ : ∃ x, x = t[j] := ⟨_, rfl⟩
        rw [← hx] at d0 d1 d2 d3 d4 lst nxt EM MK UP
        clear hx LK
        have i6 : ¬ ((j : Int) < 0) := by omega
        have i7 : ¬ ((t.length : Int) ≤ (j : Int)) := by omega
        obtain ⟨m, hm⟩ : ∃ m, m = minDue t 9223372036854775807 (l.take k) := ⟨_, rfl⟩
        rw [← hm] at EM ⊢
        clear hm
        have BX := Lib.hid (Blk.new wr 32 #[.int .i64 x.kind, .int .i64 x.up, .int .i64 x.due, .int .i64 x.key, .int .i64 x.value])
        obtain ⟨V, hV⟩ : ∃ V, V = wr.alloc (.cells #[.int .i64 x.kind, .int .i64 x.up, .int .i64 x.due, .int .i64 x.key, .int .i64 x.value] 32) := ⟨_, rfl⟩
        rw [← hV] at BX
        have KV : Hid (Kept 0 0 w3 V) := by show Kept _ _ _ _; rw [hV]; exact HK.out.alloc _
        have zV : V.heap.size = wr.heap.size + 1 := by rw [hV]; simp
        have HV := Lib.hid hV
        clear hV HK
        go_upto_region 16 with fail
        rw [← HV.out]
        clear HV c1 d0 d1 d2 d3 d4
        by_cases hend : x.kind = 0 ∨ x.kind = 4
        · have j2 : ((k : Int) == (l.length : Int) - 1) = true := by have := lst.1 hend; simp; omega
          have j3 : k + 1 = l.length := lst.1 hend
          rcases hend with h0 | h0
          · have b0 := BX.out.cell 0
            have b2 := BX.out.cell 2
            rw [h0] at b0
            go_upto_if 90 with fail
            go_cut [6] (fun p wx => p = .int .i64 (minI m x.due) ∧ Hid (Blk wx wr.heap.size 32 #[.int .i64 x.kind, .int .i64 x.up, .int .i64 x.due, .int .i64 x.key, .int .i64 x.value]) ∧ Hid (Kept 0 0 w3 wx) ∧ wr.heap.size + 1 ≤ wx.heap.size)
            case first =>
              by_cases hm : x.due < m
              · have e1 : Hid (minI m x.due = x.due) := by show _ = _; simp [minI, hm]
                go_wp2_with fail
                go_meet
                exact ⟨by rw [e1.out], BX, KV, by omega⟩
              · have e1 : Hid (minI m x.due = m) := by show _ = _; simp [minI, hm]
                go_wp2_with fail
                go_meet
                exact ⟨by rw [e1.out], BX, KV, by omega⟩
            case rest =>
              obtain ⟨rfl, BY, KY, zY⟩ := hcut
              clear b0 b2 BX KV zV
              have b1 := BY.out.cell 1
              go_upto_region 19 with fail
              go_quiet (fail)
              go_wp2
              go_roundw
              case rel => exact ⟨k + 1, by omega, by go_num, by rw [EM], Lib.hid (KY.out.drewN _)⟩
              case measure => simp [intOf]; omega
          · have b0 := BX.out.cell 0
            have b2 := BX.out.cell 2
            rw [h0] at b0
            go_upto_if 90 with fail
            go_cut [6] (fun p wx => p = .int .i64 (minI m x.due) ∧ Hid (Blk wx wr.heap.size 32 #[.int .i64 x.kind, .int .i64 x.up, .int .i64 x.due, .int .i64 x.key, .int .i64 x.value]) ∧ Hid (Kept 0 0 w3 wx) ∧ wr.heap.size + 1 ≤ wx.heap.size)
            case first =>
              by_cases hm : x.due < m
              · have e1 : Hid (minI m x.due = x.due) := by show _ = _; simp [minI, hm]
                go_wp2_with fail
                go_meet
                exact ⟨by rw [e1.out], BX, KV, by omega⟩
              · have e1 : Hid (minI m x.due = m) := by show _ = _; simp [minI, hm]
                go_wp2_with fail
                go_meet
                exact ⟨by rw [e1.out], BX, KV, by omega⟩
            case rest =>
              obtain ⟨rfl, BY, KY, zY⟩ := hcut
              clear b0 b2 BX KV zV
              have b1 := BY.out.cell 1
              go_upto_region 19 with fail
              go_quiet (fail)
              go_wp2
              go_roundw
              case rel => exact ⟨k + 1, by omega, by go_num, by rw [EM], Lib.hid (KY.out.drewN _)⟩
              case measure => simp [intOf]; omega
        · have j3 : k + 1 < l.length := by have : ¬ (k + 1 = l.length) := fun h => hend (lst.2 h); omega
          have j2 : ((k : Int) == (l.length : Int) - 1) = false := by simp; omega
          have n0 : (x.kind == 0) = false := by simp; exact fun h => hend (.inl h)
          have n4 : (x.kind == 4) = false := by simp; exact fun h => hend (.inr h)
          have up0 : 0 ≤ x.up := by have : x.up ≠ -1 := fun h => hend (.inl (UP.2.2.2 h)); omega
          have NX := nxt j3
          have b0 := BX.out.cell 0
          have b2 := BX.out.cell 2
          go_upto_if 90 with fail
          go_cut [6] (fun p wx => p = .int .i64 (minI m x.due) ∧ Hid (Blk wx wr.heap.size 32 #[.int .i64 x.kind, .int .i64 x.up, .int .i64 x.due, .int .i64 x.key, .int .i64 x.value]) ∧ Hid (Kept 0 0 w3 wx) ∧ wr.heap.size + 1 ≤ wx.heap.size)
          case first =>
            by_cases hm : x.due < m
            · have e1 : Hid (minI m x.due = x.due) := by show _ = _; simp [minI, hm]
              go_wp2_with fail
              go_meet
              exact ⟨by rw [e1.out], BX, KV, by omega⟩
            · have e1 : Hid (minI m x.due = m) := by show _ = _; simp [minI, hm]
              go_wp2_with fail
              go_meet
              exact ⟨by rw [e1.out], BX, KV, by omega⟩
          case rest =>
            obtain ⟨rfl, BY, KY, zY⟩ := hcut
            clear b0 b2 BX KV zV
            have b1 := BY.out.cell 1
            have c1 : Hid (wc.cell? (ae.add k) = some (.int .i64 j)) := by
              obtain ⟨a', e1, _, c1⟩ := (L3.out.rd.kept (by omega) KY.out (.inl (Nat.le_refl _))).at_ hlt
              injection e1 with e1
              subst e1
              rw [hj] at c1
              exact c1
            have c2 : Hid (wc.cell? ⟨ae.block, ae.off + (k + 1), none⟩ = some (.int .i64 x.up)) := by
              obtain ⟨a', e1, _, c2⟩ := (L3.out.rd.kept (by omega) KY.out (.inl (Nat.le_refl _))).at_ j3
              injection e1 with e1
              subst e1
              rw [NX] at c2
              show _ = _
              simpa [Addr.add] using c2
            have c3 : Hid (wc.cell? ⟨wr.heap.size, 1, none⟩ = some (.int .i64 x.up)) := BY.out.cell 1
            have j4 : (x.up != x.up) = false := by simp
            have j5 : (k : Int) + 1 < (l.length : Int) := by omega
            have j6 : IntKind.i64.wrap ((l.length : Int) - 1) = (l.length : Int) - 1 := IntWalk.i64_in _ (by omega)
            have j7 : IntKind.i64.wrap ((k : Int) + 1) = (k : Int) + 1 := IntWalk.i64_in _ (by omega)
            have j9 : 0 ≤ (k : Int) + 1 := by omega
            have j8 : ((k : Int) + 1).toNat = k + 1 := by omega
            have MK' := Lib.hid (MK up0)
            have OY := Lib.hid (O3.out.rd.kept (by omega) KY.out (.inl (Nat.le_refl _)))
            have X0 : wc.drew.cell? ⟨wr.heap.size, 1, none⟩ = some (.int .i64 x.up) ∧ wc.drew.cell? ⟨ae.block, ae.off + (k + 1), none⟩ = some (.int .i64 x.up) ∧ wc.drew.cell? (ae.add k) = some (.int .i64 j) := ⟨c3.out, c2.out, c1.out⟩
            clear NX nxt MK b1 BY UP lst
            go_upto_region 19 with fail
            go_region_held3 (fun w' => w'.cell? ⟨wr.heap.size, 1, none⟩ = some (.int .i64 x.up) ∧ w'.cell? ⟨ae.block, ae.off + (k + 1), none⟩ = some (.int .i64 x.up) ∧ w'.cell? (ae.add k) = some (.int .i64 j))
              (with_reducible assumption)
              (first
                | (go_at_call 17; (with_reducible refine (implKids t x.up (.slice (some ad) t.length d) wc.drew (OY.out.kept (by omega) (Kept.refl 0 0 wc).drew (.inl (Nat.le_refl _)) |>.wide (by simp; omega))).mono ?_); rintro e w4 ⟨uK, rfl, o4, hk⟩; have k4 : Kept 0 0 wc w4 := (Kept.refl 0 0 wc).drew.trans hk; have X1 : w4.cell? ⟨wr.heap.size, 1, none⟩ = some (.int .i64 x.up) ∧ w4.cell? ⟨ae.block, ae.off + (k + 1), none⟩ = some (.int .i64 x.up) ∧ w4.cell? (ae.add k) = some (.int .i64 j) := ⟨cell_kept k4 c3.out, cell_kept k4 c2.out, cell_kept k4 c1.out⟩; clear hk)
                | (go_at_call 16; (with_reducible refine (has_true (kidsL t x.up) j uK w4 (o4.rdW (Nat.le_refl _)) MK'.out).mono ?_); rintro e w5 ⟨rfl, hk⟩; have k5 : Kept 0 0 wc w5 := k4.trans hk; have X2 : w5.cell? ⟨wr.heap.size, 1, none⟩ = some (.int .i64 x.up) ∧ w5.cell? ⟨ae.block, ae.off + (k + 1), none⟩ = some (.int .i64 x.up) ∧ w5.cell? (ae.add k) = some (.int .i64 j) := ⟨cell_kept k5 c3.out, cell_kept k5 c2.out, cell_kept k5 c1.out⟩; have K5 := Lib.hid (KY.out.trans k5); clear hk))
            all_goals
              clear X0 X1 X2 k4 k5 o4
              go_wp2
              go_roundw
              case rel => exact ⟨k + 1, by omega, by go_num, by rw [EM], K5⟩
              case measure => simp [intOf]; omega
      · have et : l.take k = l := List.take_of_length_le (by omega)
        rw [et]
        clear et
        obtain ⟨m, hm⟩ : ∃ m, m = minDue t 9223372036854775807 l := ⟨_, rfl⟩
        rw [← hm] at CD ⊢
        have e1 : (m == m) = true := by simp
        have j1 : ¬ (k : Int) < (l.length : Int) := by omega
        have zr := HK.out.size
        have C2 := Lib.hid (CD.out wr ((O3.out.rd.kept (by omega) HK.out (.inl (Nat.le_refl _))).wide (by omega)))
        clear hm CD CL E1 OT
        go_wp2_with fail
        with_reducible refine C2.out.mono ?_
        rintro e w4 ⟨rfl, hk4⟩
        have K4 := Lib.hid ((K3.out.trans HK.out).trans hk4)
        clear hk4 HK C2
        go_wp2
        go_ret
        exact ⟨rfl, K4.out⟩
  · have hh : hasB t n = false := by
      cases hb : hasB t n
      · rfl
      · obtain ⟨a, b, c⟩ := hasB_true.1 hb
        exact absurd ⟨treeB_true.2 a, b, c⟩ q
    have ec : chainL t n = [] := by simp [chainL, hh]
    have ED : Hid (dueI t n = 9223372036854775807) := by show _ = _; simp [dueI, ec, minDue]
    rw [ec]
    clear hh ec gl L3
    cases q1 : treeB t
    · clear q q1
      go_wp2_with fail
      with_reducible refine (implDue t n _ w3 (O3.out.rdW (by omega))).mono ?_
      rintro e w4 ⟨rfl, hk⟩
      rw [ED.out]
      have K4 := Lib.hid (K3.out.trans hk)
      clear hk O3 K3
      go_wp2
      go_ret
      exact ⟨rfl, K4.out⟩
    · have q' : n < 0 ∨ (¬ n < 0 ∧ (t.length : Int) ≤ n) := by
        have : ¬ (0 ≤ n ∧ n < t.length) := fun h => q ⟨q1, h⟩
        omega
      clear q q1
      rcases q' with i1 | ⟨i1, i2⟩
      · go_wp2_with fail
        with_reducible refine (implDue t n _ w3 (O3.out.rdW (by omega))).mono ?_
        rintro e w4 ⟨rfl, hk⟩
        rw [ED.out]
        have K4 := Lib.hid (K3.out.trans hk)
        clear hk O3 K3
        go_wp2
        go_ret
        exact ⟨rfl, K4.out⟩
      · go_wp2_with fail
        with_reducible refine (implDue t n _ w3 (O3.out.rdW (by omega))).mono ?_
        rintro e w4 ⟨rfl, hk⟩
        rw [ED.out]
        have K4 := Lib.hid (K3.out.trans hk)
        clear hk O3 K3
        go_wp2
        go_ret
        exact ⟨rfl, K4.out⟩
end Go.Proofs.Ytakhegamlammcaa
