/- The library's IndexFunc and DeleteFunc at int64, for the program's test on a child: what the test says no to stays; condition: the row is the call's own and the test returns what is said. -/
import Derived.Test.YtlfbmjfbebbdlaaWn
import Derived.Lib.SliceRun
namespace Go.Proofs.Ytlfbmjfbebbdlaa
open Go.RowKit Go.Sort

theorem zeroI : ∀ w, (zeroValue 2).run Try.prog w = .ok (.int .i64 0) w := by
  intro w
  obtain ⟨i, h1, h2, h3, h4⟩ := info_parts Try.infoI
  simp [zeroValue, typeInfo, h1, h2]
theorem setCells_row {base e size n c g : Nat} {xs : List Value} : ∀ (us : List Value) (o : Nat) (w : World), w.ownsRow base e size (.slice (some ⟨g, 0, none⟩) n c) n xs → xs.length ≤ o →
    (w.setCells g o us).ownsRow base e size (.slice (some ⟨g, 0, none⟩) n c) n xs ∧ Kept g (g + 1) w (w.setCells g o us) := by
  intro us
  induction us with
  | nil => intro o w h _; exact ⟨h, Kept.refl _ _ _⟩
  | cons u r ih =>
    intro o w h ho
    have h1 := (h.stored o u).1
    rw [List.set_eq_of_length_le ho] at h1
    obtain ⟨h2, h3⟩ := ih (o + 1) _ h1 (by omega)
    exact ⟨h2, (kept_set1 w g o u).trans h3⟩
theorem rowI_at {w : World} {lo g d : Nat} {xs : List Int} (h : w.ownsRow lo 2 1 (.slice (some ⟨g, 0, none⟩) xs.length d) xs.length (iR.flat xs)) {k : Nat} (hk : k < xs.length) : w.cell? ⟨g, k, none⟩ = some (.int .i64 xs[k]) := by
  have := own_at (R := iR) h hk 0 (u := .int .i64 xs[k]) rfl
  simpa [iR_k] using this
theorem rowI_blk {w : World} {lo g n d : Nat} {xs : List Value} (h : w.ownsRow lo 2 1 (.slice (some ⟨g, 0, none⟩) n d) n xs) : ∃ cs, Blk w g 2 cs := row_blk h rfl
theorem rowI_shorter {w : World} {lo g d : Nat} {xs : List Int} (h : w.ownsRow lo 2 1 (.slice (some ⟨g, 0, none⟩) xs.length d) xs.length (iR.flat xs)) (m : Nat) (hm : m ≤ xs.length) : w.ownsRow lo 2 1 (.slice (some ⟨g, 0, none⟩) m d) m (iR.flat (xs.take m)) := by
  refine ⟨by rw [iR.flat_len]; simp [hm, iR_k], ?_⟩
  rcases h.2 with ⟨hv, _⟩ | ⟨g', cap, cur, hv, hb, hg, h1, h2, h3, h4⟩
  · injection hv with h1; cases h1
  · injection hv with e1 e2 e3
    subst e3
    refine .inr ⟨g', d, cur, by rw [e1], hb, hg, by omega, h2, h3, ?_⟩
    rw [iR.flat_take, ← h4, List.take_take, iR_k, Nat.min_eq_left (Nat.mul_le_mul_right _ hm)]

/-- The test returns what p says of every element, and keeps all. -/
def Tests (w : World) (c : Nat) (xs : List Int) (p : Int → Bool) : Prop := ∀ x ∈ xs, Calls Try.prog 79 #[.int .i64 x, .pointer (some ⟨c, 0, none⟩)] w fun e w' => e = .returned (.bool (p x)) ∧ w = w'
/-- What IndexFunc finds. -/
def Found (xs : List Int) (p : Int → Bool) (r : Int) : Prop := (r = -1 ∧ ∀ x ∈ xs, p x = false) ∨ ∃ i, ∃ h : i < xs.length, r = (i : Int) ∧ p xs[i] = true ∧ ∀ j (hj : j < i), p (xs[j]'(by omega)) = false
set_option maxHeartbeats 800000 in
theorem indexI_any (w : World) (A : Option Addr) (d c B : Nat) (xs : List Int) (p : Int → Bool) (h : RdR iR w B A xs) (hp : Tests w c xs p) :
    Calls Try.prog 82 #[.slice A xs.length d, .func (.func 79) #[] #[.pointer (some ⟨c, 0, none⟩)]] w fun e w' => ∃ r, e = .returned (.int .i64 r) ∧ w = w' ∧ Found xs p r := by
  have hm := h.1
  unfold maxLen at hm
  have H := Lib.hid h
  have HP := Lib.hid hp
  clear h hp
  go_enter Try.func82, Try.ntmps82
  go_wp2
  go_loop [8] (fun i => ∃ j : Nat, j ≤ xs.length ∧ i = .int .i64 j ∧ Hid (∀ k (hk : k < j) (hl : k < xs.length), p xs[k] = false)) (fun i => xs.length - (intOf i).toNat)
  case atStart => exact ⟨0, Nat.zero_le _, rfl, Lib.hid (fun k hk => by omega)⟩
  case round =>
    obtain ⟨j, hj, rfl, HF⟩ := hrel
    by_cases hlt : j < xs.length
    · have i1 : (j : Int) < (xs.length : Int) := by omega
      obtain ⟨ad, rfl, _, c1⟩ := H.out.i hlt
      have CS := Lib.hid (HP.out _ (List.getElem_mem hlt))
      cases hq : p xs[j]
      · rw [hq] at CS
        have HF2 : Hid (∀ k (hk : k < j + 1) (hl : k < xs.length), p xs[k] = false) := by
          intro k hk hl
          rcases Nat.lt_or_ge k j with h' | h'
          · exact HF.out k h' hl
          · obtain rfl : k = j := by omega
            exact hq
        clear hq
        go_wp2_with fail
        with_reducible refine CS.out.mono ?_
        rintro e w' ⟨rfl, rfl⟩
        go_wp2_with fail
        go_round
        case rel => exact ⟨j + 1, by omega, by go_num, HF2⟩
        case measure => simp [intOf]; omega
      · rw [hq] at CS
        have HQ := Lib.hid hq
        clear hq
        go_wp2_with fail
        with_reducible refine CS.out.mono ?_
        rintro e w' ⟨rfl, rfl⟩
        go_wp2_with fail
        go_ret
        exact ⟨_, rfl, rfl, .inr ⟨j, hlt, rfl, HQ.out, fun k hk => HF.out k hk (by omega)⟩⟩
    · go_wp2
      go_ret
      exact ⟨_, rfl, rfl, .inl ⟨rfl, fun x hx => by
        obtain ⟨k, hk, rfl⟩ := List.getElem_of_mem hx
        exact HF.out k (by omega) hk⟩⟩

/-- The row while elements move down: m stay of the first n. -/
structure Del (xs : List Int) (p : Int → Bool) (ys : List Int) (m n : Nat) : Prop where
  len : ys.length = xs.length
  stay : ys.take m = (xs.take n).filter fun x => !p x
  rest : ys.drop n = xs.drop n
section
variable {xs ys : List Int} {p : Int → Bool} {m n : Nat}
theorem Del.start {i : Nat} (hi : i < xs.length) (h1 : p xs[i] = true) (h0 : ∀ j (hj : j < i), p (xs[j]'(by omega)) = false) : Del xs p xs i (i + 1) := by
  refine ⟨rfl, ?_, rfl⟩
  rw [List.take_succ_eq_append_getElem hi, List.filter_append]
  have e : (xs.take i).filter (fun x => !p x) = xs.take i := by
    rw [List.filter_eq_self]
    intro x hx
    obtain ⟨j, hj, rfl⟩ := List.getElem_of_mem hx
    simp at hj
    rw [List.getElem_take, h0 j (by omega)]
    rfl
  simp [e, h1]
theorem Del.at_ (h : Del xs p ys m n) (hn : n < xs.length) : ys[n]'(by rw [h.len]; exact hn) = xs[n] := by
  have h1 := congrArg (fun l => l[0]?) h.rest
  simpa [List.getElem?_drop, List.getElem?_eq_getElem hn, List.getElem?_eq_getElem (show n < ys.length by rw [h.len]; exact hn)] using h1
theorem Del.skip (h : Del xs p ys m n) (hn : n < xs.length) (h1 : p xs[n] = true) : Del xs p ys m (n + 1) := by
  refine ⟨h.len, ?_, ?_⟩
  · rw [List.take_succ_eq_append_getElem hn, List.filter_append, h.stay]
    simp [h1]
  · have := congrArg (List.drop 1) h.rest
    simpa [List.drop_drop] using this
theorem Del.move (h : Del xs p ys m n) (hmn : m < n) (hn : n < xs.length) (h1 : p xs[n] = false) : Del xs p (ys.set m xs[n]) (m + 1) (n + 1) := by
  have hl := h.len
  refine ⟨by simpa using h.len, ?_, ?_⟩
  · rw [List.take_succ_eq_append_getElem hn, List.filter_append, ← h.stay, List.take_succ_eq_append_getElem (by simp; omega), List.take_set_of_le (Nat.le_refl _)]
    simp [h1]
  · rw [List.drop_set_of_lt (by omega)]
    have := congrArg (List.drop 1) h.rest
    simpa [List.drop_drop] using this
end

set_option maxHeartbeats 1600000 in
set_option maxRecDepth 100000 in
theorem deleteI_any (w : World) (D : Option Addr) (d c lo hi : Nat) (xs : List Int) (p : Int → Bool) (h : OwnZ w lo hi 2 1 D xs.length d (iR.flat xs)) (hp : ∀ w', Kept lo hi w w' → Tests w' c xs p) (hn : xs.length ≤ 1000) (hh : hi ≤ w.heap.size) :
    Calls Try.prog 77 #[.slice D xs.length d, .func (.func 79) #[] #[.pointer (some ⟨c, 0, none⟩)]] w fun e w' => ∃ u, e = .returned u ∧ OwnI w' lo hi u (xs.filter fun x => !p x) ∧ Kept lo hi w w' := by
  have H := Lib.hid h
  have HP := Lib.hid hp
  have CI := Lib.hid (indexI_any w D d c hi xs p (OwnZ.rd (R := iR) h).2 (hp w (Kept.refl _ _ _)))
  have hcap := h.cap
  have hdl : xs.length ≤ d := hcap.1
  have hdm : d ≤ 9223372036854775807 := by have := hcap.2; unfold maxLen at this; omega
  clear h hp hcap
  go_enter Try.func77, Try.ntmps77
  go_wp2_with fail
  with_reducible refine CI.out.mono ?_
  rintro e w' ⟨r, rfl, rfl, hf⟩
  rcases hf with ⟨rfl, hf⟩ | ⟨i, hi1, rfl, hf1, hf2⟩
  · have E : Hid (xs.filter (fun x => !p x) = xs) := by show _ = _; rw [List.filter_eq_self]; intro x hx; rw [hf x hx]; rfl
    clear hf
    go_wp2
    go_ret
    rw [E.out]
    exact ⟨_, rfl, ⟨D, d, rfl, H.out⟩, Kept.refl _ _ _⟩
  have D0 : Hid (Del xs p xs i (i + 1)) := Del.start hi1 hf1 hf2
  clear hf1 hf2
  obtain ⟨g, rfl, hlo, hgh, hgw⟩ : ∃ g, D = some ⟨g, 0, none⟩ ∧ lo ≤ g ∧ g < hi ∧ g < w.heap.size := by
    rcases H.out.form with ⟨_, h0, _⟩ | h'
    · exfalso; omega
    · exact h'
  have g1 : ((i : Int) == -1) = false := by simp
  go_wp2_with fail
  go_loopw [5, 6] (fun i j wr => ∃ (m n : Nat) (ys : List Int), i = .int .i64 m ∧ j = .int .i64 n ∧ m < n ∧ n ≤ xs.length ∧ Hid (Del xs p ys m n) ∧ Hid (wr.ownsRow lo 2 1 (.slice (some ⟨g, 0, none⟩) ys.length d) ys.length (iR.flat ys)) ∧ Hid (Kept lo hi w wr)) (fun _ j _ => xs.length - (intOf j).toNat)
  case atStart => exact ⟨i, i + 1, xs, rfl, by go_num, by omega, by omega, D0, H.out.1, Lib.hid (Kept.refl _ _ _)⟩
  case round =>
    clear D0
    obtain ⟨m, n, ys, rfl, rfl, hmn, hnl, HD, HO, HK⟩ := hrel
    have HL : Hid (ys.length = xs.length) := HD.out.len
    obtain ⟨cg, hg⟩ := rowI_blk HO.out
    by_cases hlt : n < xs.length
    · have i1 : (n : Int) < (xs.length : Int) := by omega
      have i2 : (m : Int) < (xs.length : Int) := by omega
      have cn : wr.cell? ⟨g, n, none⟩ = some (.int .i64 xs[n]) := by rw [← HD.out.at_ hlt]; exact rowI_at HO.out _
      obtain ⟨vm, cm⟩ : ∃ v, wr.cell? ⟨g, m, none⟩ = some v := ⟨_, rowI_at HO.out (k := m) (by rw [HL.out]; omega)⟩
      have fm := hg.frozen m
      have CS := Lib.hid (HP.out wr HK.out _ (List.getElem_mem hlt))
      clear hg
      cases hq : p xs[n]
      · rw [hq] at CS
        have D2 : Hid (Del xs p (ys.set m xs[n]) (m + 1) (n + 1)) := HD.out.move hmn hlt hq
        have O2 : Hid ((wr.setCell ⟨g, m, none⟩ (.int .i64 xs[n])).ownsRow lo 2 1 (.slice (some ⟨g, 0, none⟩) (ys.set m xs[n]).length d) (ys.set m xs[n]).length (iR.flat (ys.set m xs[n]))) := by
          rw [List.length_set]; exact own_putI HO.out m xs[n]
        have K2 : Hid (Kept lo hi w (wr.setCell ⟨g, m, none⟩ (.int .i64 xs[n]))) := HK.out.trans ((kept_set1 wr g m _).wide (.inr ⟨hlo, hgh⟩))
        clear hq
        go_wp2_with fail
        with_reducible refine CS.out.mono ?_
        rintro e w' ⟨rfl, rfl⟩
        go_wp2_with fail
        go_roundw
        case rel => exact ⟨m + 1, n + 1, _, by go_num, by go_num, by omega, by omega, D2, O2, K2⟩
        case measure => simp [intOf]; omega
      · rw [hq] at CS
        have D2 : Hid (Del xs p ys m (n + 1)) := HD.out.skip hlt hq
        clear hq
        go_wp2_with fail
        with_reducible refine CS.out.mono ?_
        rintro e w' ⟨rfl, rfl⟩
        go_wp2_with fail
        go_roundw
        case rel => exact ⟨m, n + 1, ys, rfl, by go_num, by omega, by omega, D2, HO, HK⟩
        case measure => simp [intOf]; omega
    · have hne : n = xs.length := by omega
      have EF : Hid (xs.filter (fun x => !p x) = ys.take m) := by
        have := HD.out.stay
        rw [List.take_of_length_le (l := xs) (i := n) (by omega)] at this
        exact this.symm
      have i1 : ¬ (n : Int) < (xs.length : Int) := by omega
      have hml : m < xs.length := by omega
      have p1 : (m : Int) ≤ (xs.length : Int) := by omega
      have p2 : (xs.length : Int) ≤ (d : Int) := by omega
      have p3 : ¬ (d : Int) = (m : Int) := by omega
      have p4 : ¬ d = m := by omega
      have p5 : (m : Int) ≤ (d : Int) := by omega
      have hcl : ∀ ty, (Builtin.clear_ #[29] ty #[.slice (some ⟨g, m, none⟩) (xs.length - m) (d - m)]).run Try.prog wr = .ok (.tuple #[]) (wr.setCells g m (List.replicate (xs.length - m) (.int .i64 0))) := by
        intro ty
        exact Lib.run_clear_slice wr 29 2 ty (.int .i64 0) Try.underlying29 zeroI rfl rfl g m (xs.length - m) (d - m) (by omega) (fun j hj => by rw [rowI_at HO.out (k := m + j) (by rw [HL.out]; omega)]; rfl) (fun j hj => hg.frozen _)
      obtain ⟨V, hV⟩ : ∃ V, V = wr.setCells g m (List.replicate (xs.length - m) (.int .i64 0)) := ⟨_, rfl⟩
      have RV := setCells_row (List.replicate (xs.length - m) (.int .i64 0)) m wr (rowI_shorter HO.out m (by rw [HL.out]; omega)) (by rw [iR.flat_len, iR_k]; simp; omega)
      rw [← hV] at RV
      have OV := Lib.hid RV.1
      have KV : Hid (Kept lo hi w V) := HK.out.trans (RV.2.wide (.inr ⟨hlo, hgh⟩))
      have EM : Hid ((ys.take m).length = m) := by show _ = _; rw [List.length_take, HL.out]; omega
      have HV := Lib.hid hV
      rw [← hV] at hcl
      clear hne hg RV hV HO HK HD
      go_wp2_with fail
      go_ret
      rw [EF.out]
      exact ⟨_, rfl, ⟨some ⟨g, 0, none⟩, d, by rw [EM.out]; trace_state; rfl, by rw [EM.out]; exact OwnZ.mk_ OV.out hgh⟩, KV.out⟩
end Go.Proofs.Ytlfbmjfbebbdlaa
