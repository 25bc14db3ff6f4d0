/- The program's look-up of a timer, and how it shows a timer; no condition beyond that the timers lie in memory. -/
import Derived.Test.YtnphjohmkjoefaaQc
import Derived.StillTailTactics
namespace Go.Proofs.Ytnphjohmkjoefaa
open Go.RowKit Go.Sort

/-- The block of the timer at a place. -/
def trAt (zs : List Tr) : Option Nat → Option Addr
  | none => none
  | some k => (zs[k]?).map fun z => ⟨z.p, 0, none⟩
theorem trAt_some {zs : List Tr} {k : Nat} (hk : k < zs.length) : trAt zs (some k) = some ⟨zs[k].p, 0, none⟩ := by simp [trAt, List.getElem?_eq_getElem hk]

set_option maxHeartbeats 800000 in
theorem findA_any (w : World) (lo b d : Nat) (par : Value) (t : PT) (D : Option Addr) (zs : List Tr) (next q : Int) (h : Alm w lo b par t D d zs next) (hn : zs.length ≤ 1000) :
    Calls Try.prog 34 #[toBlk b, .int .i64 q] w fun e w' => e = .returned (.pointer (trAt zs (atL (zs.map Tr.x) q))) ∧ w = w' := by
  have H := Lib.hid h
  have b1 := bx1 h.blk
  clear h
  go_enter Try.func34, Try.ntmps34
  go_wp2
  go_loop [12] (fun i => ∃ k : Nat, k ≤ zs.length ∧ i = .int .i64 k ∧ Hid (∀ j (hj : j < k) (hl : j < zs.length), zs[j].x.seq ≠ q)) (fun i => zs.length - (intOf i).toNat)
  case atStart => exact ⟨0, Nat.zero_le _, rfl, Lib.hid (fun j hj => by omega)⟩
  case round =>
    obtain ⟨k, hk, rfl, HN⟩ := hrel
    by_cases hlt : k < zs.length
    · have i1 : (k : Int) < (zs.length : Int) := by omega
      obtain ⟨ad, e1, c1⟩ := H.out.at_ hlt
      subst e1
      have hz := H.out.get hlt
      have c2 : w.cell? ⟨zs[k].p, 0, none⟩ = some (toBlk zs[k].e) := hz.1.cell 0
      have c3 := hz.2.c1
      clear hz
      by_cases he : zs[k].x.seq = q
      · have g1 : (zs[k].x.seq == q) = true := by simpa using he
        have E : Hid (trAt zs (atL (zs.map Tr.x) q) = some ⟨zs[k].p, 0, none⟩) := by
          show _ = _
          rw [atL_first (k := k) (by simpa using hlt) (by simpa using he) (fun j hj => by simpa using HN.out j hj (by omega)), trAt_some hlt]
        clear he
        go_wp2
        go_ret
        exact ⟨ret_ptr E.out.symm, rfl⟩
      · have g1 : (zs[k].x.seq == q) = false := by simpa using he
        have HN2 : Hid (∀ j (hj : j < k + 1) (hl : j < zs.length), zs[j].x.seq ≠ q) := by
          intro j hj hl
          rcases Nat.lt_or_ge j k with h' | h'
          · exact HN.out j h' hl
          · obtain rfl : j = k := by omega
            exact he
        clear he
        go_wp2
        go_round
        case rel => exact ⟨k + 1, by omega, by go_num, HN2⟩
        case measure => simp [intOf]; omega
    · have E : Hid (atL (zs.map Tr.x) q = none) := atL_none.2 (fun x hx => by
        obtain ⟨z, hz, rfl⟩ := List.mem_map.1 hx
        obtain ⟨j, hj, rfl⟩ := List.getElem_of_mem hz
        exact HN.out j (by omega) hj)
      go_wp2
      go_ret
      exact ⟨ret_ptr (by rw [E.out]; rfl), rfl⟩

theorem kept5 (w : World) (g : Nat) (a b c d e : Value) : Kept g (g + 1) w (((((w.setCell ⟨g, 0, none⟩ a).setCell ⟨g, 1, none⟩ b).setCell ⟨g, 2, none⟩ c).setCell ⟨g, 3, none⟩ d).setCell ⟨g, 4, none⟩ e) :=
  (((((Kept.refl g (g + 1) w).setCell (.inr ⟨Nat.le_refl _, by simp⟩) _).setCell (.inr ⟨Nat.le_refl _, by simp⟩) _).setCell (.inr ⟨Nat.le_refl _, by simp⟩) _).setCell (.inr ⟨Nat.le_refl _, by simp⟩) _).setCell (.inr ⟨Nat.le_refl _, by simp⟩) _
set_option maxHeartbeats 1600000 in
set_option maxRecDepth 100000 in
theorem shownT_any (w : World) (z : Tr) (h : TimAt w z) :
    Calls Try.prog 52 #[toBlk z.p] w fun e w' => e = .returned (.agg #[.int .i64 z.x.seq, .int .i64 z.x.due, .int .i64 z.x.what, .int .i64 z.x.whom, .bool z.x.armed]) ∧ Kept 0 0 w w' := by
  obtain ⟨V, hV⟩ : ∃ V, V = w.alloc (.cells #[.int .i64 0, .int .i64 0, .int .i64 0, .int .i64 0, .bool false] 50) := ⟨_, rfl⟩
  have KV : Hid (Kept 0 0 w V) := by show Kept _ _ _ _; rw [hV]; exact Kept.alloc0 _ _
  have BV : Hid (Blk V w.heap.size 50 #[.int .i64 0, .int .i64 0, .int .i64 0, .int .i64 0, .bool false]) := by show Blk _ _ _ _; rw [hV]; exact Blk.new _ _ _
  have HZ := Lib.hid h
  have HV := Lib.hid hV
  clear hV h
  go_enter Try.func52, Try.ntmps52
  go_wp2_with fail
  rw [← HV.out]
  have hz := HZ.out.kept KV.out (Nat.le_refl _)
  have t0 : V.cell? ⟨z.p, 0, none⟩ = some (toBlk z.e) := hz.1.cell 0
  have t1 : V.cell? ⟨z.p, 1, none⟩ = some (.int .i64 z.x.what) := hz.1.cell 1
  have t2 : V.cell? ⟨z.p, 2, none⟩ = some (.int .i64 z.x.whom) := hz.1.cell 2
  have t3 : V.cell? ⟨z.p, 3, none⟩ = some (.bool z.x.armed) := hz.1.cell 3
  have e0 := hz.2.c0
  have e1 := hz.2.c1
  clear hz
  go_still_tail 27, (by kernel_rfl)
  clear t0 t1 t2 t3 e0 e1
  change wpList _ _ _ _ _ V.drew
  obtain ⟨U, hU⟩ : ∃ U, U = V.drew := ⟨_, rfl⟩
  have KU : Hid (Kept 0 0 V U) := by show Kept _ _ _ _; rw [hU]; exact (Kept.refl _ _ _).drew
  rw [← hU]
  clear hU
  have KW := Lib.hid (KV.out.trans KU.out)
  have BU := BV.out.kept KU.out (.inl (Nat.le_refl _))
  have v0 := by0 BU
  have v1 := by1 BU
  have v2 := by2 BU
  have v3 := by3 BU
  have v4 := by4 BU
  have f0 := BU.frozen 0
  have f1 := BU.frozen 1
  have f2 := BU.frozen 2
  have f3 := BU.frozen 3
  have f4 := BU.frozen 4
  have BF : Blk (((((U.setCell ⟨w.heap.size, 0, none⟩ (.int .i64 z.x.seq)).setCell ⟨w.heap.size, 1, none⟩ (.int .i64 z.x.due)).setCell ⟨w.heap.size, 2, none⟩ (.int .i64 z.x.what)).setCell ⟨w.heap.size, 3, none⟩ (.int .i64 z.x.whom)).setCell ⟨w.heap.size, 4, none⟩ (.bool z.x.armed)) w.heap.size 50 #[.int .i64 z.x.seq, .int .i64 z.x.due, .int .i64 z.x.what, .int .i64 z.x.whom, .bool z.x.armed] := by
    have := ((((BU.set_ 0 (.int .i64 z.x.seq)).set_ 1 (.int .i64 z.x.due)).set_ 2 (.int .i64 z.x.what)).set_ 3 (.int .i64 z.x.whom)).set_ 4 (.bool z.x.armed)
    simpa using this
  have F0 := by0 BF
  have F1 := by1 BF
  have F2 := by2 BF
  have F3 := by3 BF
  have F4 := by4 BF
  have KF : Hid (Kept 0 0 w (((((U.setCell ⟨w.heap.size, 0, none⟩ (.int .i64 z.x.seq)).setCell ⟨w.heap.size, 1, none⟩ (.int .i64 z.x.due)).setCell ⟨w.heap.size, 2, none⟩ (.int .i64 z.x.what)).setCell ⟨w.heap.size, 3, none⟩ (.int .i64 z.x.whom)).setCell ⟨w.heap.size, 4, none⟩ (.bool z.x.armed))) := KW.out.trans2 (kept5 U w.heap.size _ _ _ _ _) (.inr (Nat.le_refl _))
  have FF := Lib.hid (And.intro F0 (And.intro F1 (And.intro F2 (And.intro F3 F4))))
  clear BU BF F0 F1 F2 F3 F4
  go_wp2_with fail
  obtain ⟨F0, F1, F2, F3, F4⟩ := FF.out
  exact bodyPost_ret (v := .agg #[.int .i64 z.x.seq, .int .i64 z.x.due, .int .i64 z.x.what, .int .i64 z.x.whom, .bool z.x.armed]) (by simp [results, Try.results52, go_sem, F0, F1, F2, F3, F4]) rfl ⟨rfl, KF.out⟩
end Go.Proofs.Ytnphjohmkjoefaa
