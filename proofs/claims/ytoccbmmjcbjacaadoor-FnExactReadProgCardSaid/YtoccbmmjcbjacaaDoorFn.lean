/- The program's ProgOk, by the library's ContainsFunc over its test; condition: the list can be read. -/
import Derived.Test.YtoccbmmjcbjacaaDoorFm
import Derived.Test.YtoccbmmjcbjacaaDoorFf
namespace Go.Proofs.YtoccbmmjcbjacaaDoor
open Go.RowKit Go.Sort

set_option maxHeartbeats 1600000 in
theorem notOk_any (i : Ins) (w : World) : Calls Tryd.prog 27 #[.agg #[.int .i64 i.op, .int .i64 i.a, .int .i64 i.b]] w fun e w' => e = .returned (.bool (!insB i)) ∧ Kept 0 0 w w' := by
  obtain ⟨W, hW⟩ : ∃ W, W = w.alloc (.cells #[.int .i64 i.op, .int .i64 i.a, .int .i64 i.b] 43) := ⟨_, rfl⟩
  have KW : Hid (Kept 0 0 w W) := by show Kept _ _ _ _; rw [hW]; exact Kept.alloc0 _ _
  have B : Hid (Blk W w.heap.size 43 #[.int .i64 i.op, .int .i64 i.a, .int .i64 i.b]) := by show Blk _ _ _ _; rw [hW]; exact Blk.new _ _ _
  have c0 := ins0 B.out
  have c1 := ins1 B.out
  have c2 := ins2 B.out
  have HW := Lib.hid hW
  clear hW
  go_enter Tryd.func27, Tryd.ntmps27
  go_upto_region 1 with fail
  rw [← HW.out]
  go_wp2_with fail
  with_reducible refine (implInsOk i _).mono ?_
  rintro e w1 ⟨rfl, hk⟩
  have K1 := Lib.hid (KW.out.trans hk)
  clear hk
  go_wp2_with fail
  go_ret
  exact ⟨rfl, K1.out⟩
/-- Where the first invalid instruction lies; -1 if there is none. -/
def FoundBad (xs : List Ins) (r : Int) : Prop := (r = -1 ∧ ∀ x ∈ xs, insB x = true) ∨ (0 ≤ r ∧ ∃ x ∈ xs, insB x = false)
set_option maxHeartbeats 1600000 in
theorem findBad_any (xs : List Ins) (A : Option Addr) (c B : Nat) (w : World) (hB : B ≤ w.heap.size) (h : RdR nsR w B A xs) :
    Calls Tryd.prog 51 #[.slice A xs.length c, .func (.func 27) #[] #[]] w fun e w' => ∃ r, e = .returned (.int .i64 r) ∧ Kept 0 0 w w' ∧ FoundBad xs r := by
  have hm := h.1
  unfold maxLen at hm
  have H := Lib.hid h
  clear h
  go_enter Tryd.func51, Tryd.ntmps51
  go_wp2
  go_loopw [8] (fun i wr => ∃ j : Nat, j ≤ xs.length ∧ i = .int .i64 j ∧ Hid (Kept 0 0 w wr) ∧ Hid (∀ k (hl : k < xs.length), k < j → insB xs[k] = true)) (fun i _ => xs.length - (intOf i).toNat)
  case atStart => exact ⟨0, Nat.zero_le _, rfl, Kept.refl _ _ _, fun k hl hk => by omega⟩
  case round =>
    obtain ⟨k, hk, rfl, HK, HA⟩ := hrel
    by_cases hlt : k < xs.length
    · have i1 : (k : Int) < (xs.length : Int) := by omega
      obtain ⟨ad, rfl, _, c0, c1, c2⟩ := (H.out.kept hB HK.out (.inl (Nat.le_refl _))).ns hlt
      obtain ⟨x, hxk⟩ : ∃ x, x = xs[k] := ⟨_, rfl⟩
      rw [← hxk] at c0 c1 c2
      have HX := Lib.hid hxk
      clear hxk
      go_wp2_with fail
      with_reducible refine (notOk_any x _).mono ?_
      rintro e w2 ⟨rfl, hk2⟩
      have HK2 := Lib.hid (HK.out.trans hk2)
      clear hk2 HK c0 c1 c2
      cases hb : insB x
      · have hb2 := Lib.hid hb
        clear hb
        go_wp2_with fail
        go_ret
        exact ⟨_, rfl, HK2.out, .inr ⟨by omega, xs[k], List.getElem_mem hlt, by rw [← HX.out]; exact hb2.out⟩⟩
      · have hb2 := Lib.hid hb
        clear hb
        go_wp2_with fail
        go_roundw
        case rel => exact ⟨k + 1, by omega, by go_num, HK2, fun j hj hjk => by
          rcases Nat.lt_or_ge j k with h' | h'
          · exact HA.out j hj h'
          · have : j = k := by omega
            subst this
            rw [← HX.out]; exact hb2.out⟩
        case measure => simp [intOf]; omega
    · have i1 : ¬ (k : Int) < (xs.length : Int) := by omega
      go_wp2_with fail
      go_ret
      exact ⟨_, rfl, HK.out, .inl ⟨rfl, fun x hx => by
        obtain ⟨j, hj, rfl⟩ := List.getElem_of_mem hx
        exact HA.out j hj (by omega)⟩⟩
set_option maxHeartbeats 1600000 in
theorem anyBad_any (xs : List Ins) (A : Option Addr) (c B : Nat) (w : World) (hB : B ≤ w.heap.size) (h : RdR nsR w B A xs) :
    Calls Tryd.prog 26 #[.slice A xs.length c, .func (.func 27) #[] #[]] w fun e w' => e = .returned (.bool (!xs.all insB)) ∧ Kept 0 0 w w' := by
  have C := Lib.hid (findBad_any xs A c B w hB h)
  clear h
  go_enter Tryd.func26, Tryd.ntmps26
  go_wp2_with fail
  with_reducible refine C.out.mono ?_
  rintro e w1 ⟨r, rfl, hk, hf⟩
  have K1 := Lib.hid hk
  rcases hf with ⟨rfl, ha⟩ | ⟨h0, x, hx, hb⟩
  · have E : Hid (xs.all insB = true) := by show _ = _; rw [List.all_eq_true]; exact ha
    clear ha hk
    go_wp2_with fail
    go_ret
    exact ⟨by rw [E.out]; rfl, K1.out⟩
  · have E : Hid (xs.all insB = false) := by show _ = _; rw [List.all_eq_false]; exact ⟨x, hx, by rw [hb]; decide⟩
    have g1 : decide ((0 : Int) ≤ r) = true := by simpa using h0
    clear hx hb hk
    go_wp2_with fail
    go_ret
    exact ⟨by rw [E.out]; simp, K1.out⟩
set_option maxHeartbeats 1600000 in
theorem implProgOk (xs : List Ins) (A : Option Addr) (c B : Nat) (w : World) (hB : B ≤ w.heap.size) (h : RdR nsR w B A xs) :
    Calls Tryd.prog 10 #[.slice A xs.length c] w fun e w' => e = .returned (.bool (progB xs)) ∧ Kept 0 0 w w' := by
  have hm := h.1
  unfold maxLen at hm
  have C := Lib.hid (anyBad_any xs A c B w hB h)
  clear h
  by_cases hl : xs.length ≤ 12
  · have g1 : decide (xs.length ≤ 12) = true := by simpa using hl
    have E : Hid (progB xs = xs.all insB) := by show _ = _; unfold progB; rw [g1, Bool.and_true]
    go_enter Tryd.func10, Tryd.ntmps10
    go_wp2_with fail
    with_reducible refine C.out.mono ?_
    rintro e w1 ⟨rfl, hk⟩
    have K1 := Lib.hid hk
    clear hk
    go_wp2_with fail
    go_ret
    exact ⟨ret_bool (by rw [E.out]), K1.out⟩
  · have g1 : decide (xs.length ≤ 12) = false := by simpa using hl
    have E : Hid (progB xs = false) := by show _ = _; unfold progB; rw [g1, Bool.and_false]
    go_enter Tryd.func10, Tryd.ntmps10
    go_wp2_with fail
    go_ret
    exact ⟨ret_bool (by rw [E.out]), Kept.refl _ _ _⟩
end Go.Proofs.YtoccbmmjcbjacaaDoor
