/- The library's DeleteFunc at handles, for the program's test on a handle; condition: the row is the call's own and the handle is in it. -/
import Derived.Test.YtnnbfcmbcjkpoaaCr
namespace Go.Proofs.Ytnnbfcmbcjkpoaa
open Go.RowKit Go.Sort

/-- The row while elements move down: m stay of the first n. -/
structure DelH (xs : List (Int × Int)) (p : Int × Int → Bool) (ys : List (Int × Int)) (m n : Nat) : Prop where
  len : ys.length = xs.length
  stay : ys.take m = (xs.take n).filter fun x => !p x
  rest : ys.drop n = xs.drop n
section
variable {xs ys : List (Int × Int)} {p : Int × Int → Bool} {m n : Nat}
theorem DelH.start {i : Nat} (hi : i < xs.length) (h1 : p xs[i] = true) (h0 : ∀ j (hj : j < i), p (xs[j]'(by omega)) = false) : DelH xs p xs i (i + 1) := by
  refine ⟨rfl, ?_, rfl⟩
  rw [List.take_succ_eq_append_getElem hi, List.filter_append]
  have e : (xs.take i).filter (fun x => !p x) = xs.take i := by
    rw [List.filter_eq_self]
    intro x hx
    obtain ⟨j, hj, rfl⟩ := List.getElem_of_mem hx
    simp at hj
    rw [List.getElem_take, h0 j (by omega)]
    rfl
  simp [e, h1]
theorem DelH.at_ (h : DelH xs p ys m n) (hn : n < xs.length) : ys[n]'(by rw [h.len]; exact hn) = xs[n] := by
  have h1 := congrArg (fun l => l[0]?) h.rest
  simpa [List.getElem?_drop, List.getElem?_eq_getElem hn, List.getElem?_eq_getElem (show n < ys.length by rw [h.len]; exact hn)] using h1
theorem DelH.skip (h : DelH xs p ys m n) (hn : n < xs.length) (h1 : p xs[n] = true) : DelH xs p ys m (n + 1) := by
  refine ⟨h.len, ?_, ?_⟩
  · rw [List.take_succ_eq_append_getElem hn, List.filter_append, h.stay]
    simp [h1]
  · have := congrArg (List.drop 1) h.rest
    simpa [List.drop_drop] using this
theorem DelH.move (h : DelH xs p ys m n) (hmn : m < n) (hn : n < xs.length) (h1 : p xs[n] = false) : DelH xs p (ys.set m xs[n]) (m + 1) (n + 1) := by
  have hl := h.len
  refine ⟨by simpa using h.len, ?_, ?_⟩
  · rw [List.take_succ_eq_append_getElem hn, List.filter_append, ← h.stay, List.take_succ_eq_append_getElem (by simp; omega), List.take_set_of_le (Nat.le_refl _)]
    simp [h1]
  · rw [List.drop_set_of_lt (by omega)]
    have := congrArg (List.drop 1) h.rest
    simpa [List.drop_drop] using this
end
/-- What is left once a handle that stands once is taken out. -/
theorem filter_erase : ∀ (xs : List (Int × Int)) (h : Int × Int) (i : Nat), HdAt xs h i → xs.Nodup → (xs.filter fun x => !decide (x = h)) = xs.eraseIdx i
  | [], _, _, hi, _ => by obtain ⟨hi, _⟩ := hi; simp at hi
  | x :: xs, h, 0, hi, hn => by
    obtain ⟨_, h1, _⟩ := hi
    have h1 : x = h := h1
    subst h1
    have hx : x ∉ xs := (List.nodup_cons.1 hn).1
    have e : xs.filter (fun y => !decide (y = x)) = xs := by
      rw [List.filter_eq_self]
      intro y hy
      have : y ≠ x := by rintro rfl; exact hx hy
      simp [this]
    simp [e]
  | x :: xs, h, i + 1, hi, hn => by
    obtain ⟨h0, h1, h2⟩ := hi
    have hx : x ≠ h := h2 0 (by omega)
    have := filter_erase xs h i ⟨by simpa using h0, by simpa using h1, fun j hj => by have := h2 (j + 1) (by omega); simpa using this⟩ (List.nodup_cons.1 hn).2
    simp [hx, this]

set_option maxHeartbeats 3200000 in
set_option maxRecDepth 100000 in
theorem deleteH_any (w : World) (lo g d c : Nat) (xs : List (Int × Int)) (h : Int × Int) (i : Nat) (ho : w.ownsRow lo 40 2 (.slice (some ⟨g, 0, none⟩) xs.length d) xs.length (hdR.flat xs)) (hb : Blk w c 40 #[.int .i64 h.1, .int .i64 h.2]) (hcg : c ≠ g) (hi : HdAt xs h i) (hn : xs.length ≤ 1000) :
    Calls Try.prog 65 #[.slice (some ⟨g, 0, none⟩) xs.length d, .func (.func 66) #[] #[.pointer (some ⟨c, 0, none⟩)]] w fun e w' => ∃ ys d', e = .returned (.slice (some ⟨g, 0, none⟩) ys.length d') ∧ ys = xs.filter (fun x => !decide (x = h)) ∧ w'.ownsRow lo 40 2 (.slice (some ⟨g, 0, none⟩) ys.length d') ys.length (hdR.flat ys) ∧ Kept g (g + 1) w w' := by
  have H := Lib.hid ho
  have HB := Lib.hid hb
  obtain ⟨hgl, hgw⟩ := ho.lt g rfl
  have OZ : OwnZ w lo w.heap.size 40 hdR.k (some ⟨g, 0, none⟩) xs.length d (hdR.flat xs) := OwnZ.of_row ho
  have hcap := OZ.cap
  have hdl : xs.length ≤ d := hcap.1
  have hdm : d ≤ 9223372036854775807 := by have := hcap.2; unfold maxLen at this; omega
  have CI := Lib.hid (indexH_any w (some ⟨g, 0, none⟩) d c w.heap.size xs h i (OwnZ.rd OZ).2 (Nat.le_refl _) hb hi)
  obtain ⟨hi1, hi2, hi3⟩ := hi
  have D0 : Hid (DelH xs (fun x => decide (x = h)) xs i (i + 1)) := DelH.start hi1 (by simp [hi2]) (fun j hj => by simp [hi3 j hj])
  clear ho hb OZ hcap hi2 hi3
  go_enter Try.func65, Try.ntmps65
  go_wp2_with fail
  with_reducible refine CI.out.mono ?_
  rintro e w1 ⟨rfl, hk1⟩
  have K1 : Hid (Kept g (g + 1) w w1) := hk1.wide (.inl (Nat.le_refl _))
  have H1 := Lib.hid (row_kept H.out hk1)
  have zg : w.heap.size ≤ w1.heap.size := hk1.size
  have g1 : ((i : Int) == -1) = false := by simp
  clear hk1 CI H
  go_wp2_with fail
  go_loopw [5, 6] (fun a b wr => ∃ (m n : Nat) (ys : List (Int × Int)), a = .int .i64 m ∧ b = .int .i64 n ∧ m < n ∧ n ≤ xs.length ∧ Hid (DelH xs (fun x => decide (x = h)) ys m n) ∧ Hid (wr.ownsRow lo 40 2 (.slice (some ⟨g, 0, none⟩) ys.length d) ys.length (hdR.flat ys)) ∧ Hid (Kept g (g + 1) w wr)) (fun _ b _ => xs.length - (intOf b).toNat)
  case atStart => exact ⟨i, i + 1, xs, rfl, by go_num, by omega, by omega, D0, H1, K1⟩
  case round =>
    clear D0 H1 K1
    obtain ⟨m, n, ys, rfl, rfl, hmn, hnl, HD, HO, HK⟩ := hrel
    have HL : Hid (ys.length = xs.length) := HD.out.len
    by_cases hlt : n < xs.length
    · have i1 : (n : Int) < (xs.length : Int) := by omega
      have i2 : (m : Int) < (xs.length : Int) := by omega
      have en : ys[n]'(by rw [HL.out]; exact hlt) = xs[n] := HD.out.at_ hlt
      have k0 : wr.cell? ⟨g, n * 2, none⟩ = some (.int .i64 xs[n].1) := by rw [← en]; exact own_at (R := hdR) HO.out _ 0 rfl
      have k1 : wr.cell? ⟨g, n * 2 + 1, none⟩ = some (.int .i64 xs[n].2) := by rw [← en]; exact own_at (R := hdR) HO.out _ 1 rfl
      obtain ⟨x, hx⟩ : ∃ x, x = xs[n] := ⟨_, rfl⟩
      rw [← hx] at k0 k1
      have HX := Lib.hid hx
      clear hx en
      obtain ⟨V, hV⟩ : ∃ V, V = wr.alloc (.cells #[.int .i64 x.1, .int .i64 x.2] 40) := ⟨_, rfl⟩
      have KV : Hid (Kept 0 0 wr V) := by show Kept _ _ _ _; rw [hV]; exact Kept.alloc0 _ _
      have BV : Hid (Blk V wr.heap.size 40 #[.int .i64 x.1, .int .i64 x.2]) := by show Blk _ _ _ _; rw [hV]; exact Blk.new _ _ _
      have CS := Lib.hid (rem1_any x h c V ((HB.out.kept HK.out (by omega)).kept KV.out (.inl (Nat.le_refl _))))
      have HV := Lib.hid hV
      unfold hkey at CS
      clear hV
      go_upto_region 8 with fail
      rw [← HV.out]
      have v0 : V.cell? ⟨wr.heap.size, 0, none⟩ = some (.int .i64 x.1) := BV.out.cell 0
      have v1 : V.cell? ⟨wr.heap.size, 1, none⟩ = some (.int .i64 x.2) := BV.out.cell 1
      clear HV k0 k1
      go_wp2_with fail
      with_reducible refine CS.out.mono ?_
      rintro e w2 ⟨rfl, hk2⟩
      have K2 := Lib.hid (KV.out.trans hk2)
      have B2 := Lib.hid (BV.out.kept hk2 (.inl (Nat.le_refl _)))
      have O2 := Lib.hid (row_kept HO.out K2.out)
      have v0 : w2.cell? ⟨wr.heap.size, 0, none⟩ = some (.int .i64 x.1) := B2.out.cell 0
      have v1 : w2.cell? ⟨wr.heap.size, 1, none⟩ = some (.int .i64 x.2) := B2.out.cell 1
      have hml : m < ys.length := by rw [HL.out]; omega
      obtain ⟨u0, u1, m0, m1⟩ : ∃ u0 u1, w2.cell? ⟨g, m * 2, none⟩ = some u0 ∧ w2.cell? ⟨g, m * 2 + 1, none⟩ = some u1 := ⟨_, _, own_at (R := hdR) O2.out hml 0 rfl, own_at (R := hdR) O2.out hml 1 rfl⟩
      have f0 : w2.frozen? ⟨g, m * 2, none⟩ = false := O2.out.frozenAt _
      have f1 : w2.frozen? ⟨g, m * 2 + 1, none⟩ = false := O2.out.frozenAt _
      have HML := Lib.hid hml
      clear hml
      cases hq : decide (x = h)
      · have D2 : Hid (DelH xs (fun x => decide (x = h)) (ys.set m x) (m + 1) (n + 1)) := by show DelH _ _ _ _ _; rw [HX.out]; exact HD.out.move hmn hlt (by rw [← HX.out]; exact hq)
        clear hq
        have O3 : Hid (((w2.setCell ⟨g, m * 2, none⟩ (.int .i64 x.1)).setCell ⟨g, m * 2 + 1, none⟩ (.int .i64 x.2)).ownsRow lo 40 2 (.slice (some ⟨g, 0, none⟩) (ys.set m x).length d) (ys.set m x).length (hdR.flat (ys.set m x))) := by
          show World.ownsRow _ _ _ _ _ _ _; rw [List.length_set]; exact own_putH O2.out HML.out x
        have K3 : Hid (Kept g (g + 1) w ((w2.setCell ⟨g, m * 2, none⟩ (.int .i64 x.1)).setCell ⟨g, m * 2 + 1, none⟩ (.int .i64 x.2))) := ((HK.out.trans (K2.out.wide (.inl (Nat.le_refl _)))).setCell (p := ⟨g, m * 2, none⟩) (.inr ⟨Nat.le_refl _, Nat.lt_succ_self _⟩) _).setCell (p := ⟨g, m * 2 + 1, none⟩) (.inr ⟨Nat.le_refl _, Nat.lt_succ_self _⟩) _
        go_wp2_with fail
        go_roundw
        case rel => exact ⟨m + 1, n + 1, _, by go_num, by go_num, by omega, by omega, D2, O3, K3⟩
        case measure => simp [intOf]; omega
      · have D2 : Hid (DelH xs (fun x => decide (x = h)) ys m (n + 1)) := HD.out.skip hlt (by rw [← HX.out]; exact hq)
        have K3 : Hid (Kept g (g + 1) w w2) := HK.out.trans (K2.out.wide (.inl (Nat.le_refl _)))
        clear hq
        go_wp2_with fail
        go_roundw
        case rel => exact ⟨m, n + 1, ys, rfl, by go_num, by omega, by omega, D2, O2, K3⟩
        case measure => simp [intOf]; omega
    · have hne : n = xs.length := by omega
      have EF : Hid (xs.filter (fun x => !decide (x = h)) = ys.take m) := by
        have := HD.out.stay
        rw [List.take_of_length_le (l := xs) (i := n) (by omega)] at this
        exact this.symm
      have i1 : ¬ (n : Int) < (xs.length : Int) := by omega
      have hml : m < xs.length := by omega
      have p1 : (m : Int) ≤ (xs.length : Int) := by omega
      have p2 : (xs.length : Int) ≤ (d : Int) := by omega
      have p3 : ¬ (d : Int) = (m : Int) := by omega
      have p4 : ¬ d = m := by omega
      have p5 : (m : Int) ≤ (d : Int) := by omega
      have EM : Hid ((ys.take m).length = m) := by show _ = _; rw [List.length_take, HL.out]; omega
      have hcl : ∀ ty, (Builtin.clear_ #[37] ty #[.slice (some ⟨g, m * 2, none⟩) (xs.length - m) (d - m)]).run Try.prog wr = .ok (.tuple #[]) (wr.setCells g (m * 2) (List.replicate ((xs.length - m) * 2) (.int .i64 0))) := by
        intro ty
        have hz := HL.out
        exact run_clear_hd wr ty g (m * 2) (xs.length - m) (d - m) (by omega) (fun j hj => by rw [HO.out.cellAt _ (by omega), List.getElem?_eq_getElem (by rw [hdR.flat_len, hdR_k]; omega)]; rfl) (fun j hj => HO.out.frozenAt _)
      obtain ⟨V, hV⟩ : ∃ V, V = wr.setCells g (m * 2) (List.replicate ((xs.length - m) * 2) (.int .i64 0)) := ⟨_, rfl⟩
      have RV := setCells_rowH (List.replicate ((xs.length - m) * 2) (.int .i64 0)) (m * 2) wr (rowH_shorter HO.out m (by rw [HL.out]; omega)) (by rw [hdR.flat_len, hdR_k]; simp; omega)
      rw [← hV] at RV
      have OV := Lib.hid RV.1
      have KV : Hid (Kept g (g + 1) w V) := HK.out.trans RV.2
      have HV := Lib.hid hV
      rw [← hV] at hcl
      clear hne RV hV HO HK HD
      go_wp2_with fail
      go_ret
      exact ⟨ys.take m, d, by rw [EM.out]; rfl, EF.out.symm, by rw [EM.out]; exact OV.out, KV.out⟩
end Go.Proofs.Ytnnbfcmbcjkpoaa
