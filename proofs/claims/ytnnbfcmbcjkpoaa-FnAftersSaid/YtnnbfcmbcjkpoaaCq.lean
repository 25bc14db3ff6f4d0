/- The program's add: a function more; condition: the functions are in memory as Dfr says, at most 64, and the handle is new. -/
import Derived.Test.YtnnbfcmbcjkpoaaCp
namespace Go.Proofs.Ytnnbfcmbcjkpoaa
open Go.RowKit Go.Sort

theorem Below.app {B : Nat} {w w1 w2 : World} (h : Below B w w1) (hw : B ≤ w.heap.size) {lo e k n c : Nat} {D : Option Addr} {xs : List Value} (ho : w1.ownsRow lo e k (.slice D n c) n xs) (hB : B ≤ lo) (hg : w1.grownBy w2 (rowAt D)) : Below B w w2 :=
  h.trans ⟨hg.os, hg.tape, hg.output, hg.size, fun k hk => hg.block k (by have := h.size; omega) (by intro he; have := own_row_lo ho k he.symm; omega)⟩

def AddPost (w : World) (lo g m : Nat) (A1 : Option Addr) (c1 : Nat) (A2 : Option Addr) (c2 : Nat) (A3 : Option Addr) (t : Slt) (hs : List (Int × Int)) (ps : List (Aft × Nat)) (x : Aft) (e : Ending) (w' : World) : Prop :=
  e = .returned (.tuple #[]) ∧ ∃ D d b, Dfr w' lo g m A1 c1 A2 c2 D d t (hs ++ [hnd x]) (ps ++ [(x, b)]) ∧ Below lo w w' ∧ ∀ k, k < w.heap.size → k ≠ g → k ≠ m → some k ≠ rowAt A3 → w'.heap[k]? = w.heap[k]?
set_option maxHeartbeats 1600000 in
set_option maxRecDepth 100000 in
theorem add_any {w : World} {lo g m c1 c2 c3 : Nat} {A1 A2 A3 : Option Addr} {t : Slt} {hs : List (Int × Int)} {ps : List (Aft × Nat)} (h : Dfr w lo g m A1 c1 A2 c2 A3 c3 t hs ps) (x : Aft) (hn : NoKey (kvOf ps) (hnd x)) (hl : hs.length ≤ 1000) (hlo : lo ≤ w.heap.size) :
    Calls Try.prog 42 #[.pointer (some ⟨g, 0, none⟩), .agg (afC x)] w (AddPost w lo g m A1 c1 A2 c2 A3 t hs ps x) := by
  obtain ⟨W, hW⟩ : ∃ W, W = w.alloc (.cells (afC x) 42) := ⟨_, rfl⟩
  have KW : Hid (Kept 0 0 w W) := by show Kept _ _ _ _; rw [hW]; exact Kept.alloc0 _ _
  have B0 : Hid (Blk W w.heap.size 42 (afC x)) := by show Blk _ _ _ _; rw [hW]; exact Blk.new _ _ _
  have H := Lib.hid (h.kept KW.out)
  have gw := H.out.blk.lt
  have gz := B0.out.lt
  have x0 : W.cell? ⟨g, 2, none⟩ = some (.slice A3 hs.length c3) := H.out.blk.cell 2
  have x1 : W.cell? ⟨w.heap.size, 0, none⟩ = some (.int .i64 x.slot) := B0.out.cell 0
  have x2 : W.cell? ⟨w.heap.size, 1, none⟩ = some (.int .i64 x.age) := B0.out.cell 1
  have HW := Lib.hid hW
  have H0 := Lib.hid h
  have HN := Lib.hid hn
  have HT := Lib.hid hdSlice
  obtain ⟨Z, hZ⟩ : ∃ Z, Z = (W.alloc (.cells #[.int .i64 x.slot, .int .i64 x.age] 40)).drew := ⟨_, rfl⟩
  have KZ : Hid (Kept 0 0 W Z) := by show Kept _ _ _ _; rw [hZ]; exact (Kept.alloc0 _ _).drew
  have RZ := Lib.hid (row_kept H.out.o KZ.out)
  have BZ : Hid (Blk Z W.heap.size 40 #[.int .i64 x.slot, .int .i64 x.age]) := by show Blk _ _ _ _; rw [hZ]; exact (Blk.new _ _ _).drew
  have SZ : Hid (RdR hdR Z (W.heap.size + 1) (some ⟨W.heap.size, 0, none⟩) [hnd x]) := ⟨by simp [maxLen], fun _ => ⟨_, rfl, Nat.lt_succ_self _, fun j u hu => new_cells BZ.out j u hu⟩⟩
  have HZ := Lib.hid hZ
  have bg := H.out.blk.kept KZ.out (.inl (Nat.le_refl _))
  have BG := Lib.hid bg
  have zz : lo ≤ Z.heap.size := by have := KZ.out.size; have := KW.out.size; omega
  clear hW h hn hZ bg
  go_enter Try.func42, Try.ntmps42
  go_upto_region 1 with fail
  rw [← HW.out]
  go_region_law (first | (refine step_app (R := hdR) rfl (.tmp 8) (.tmp 11) (by rfl) HT.out lo A3 c3 hs (by rfl) (by rw [← HZ.out]; exact RZ.out) (W.heap.size + 1) (some ⟨W.heap.size, 0, none⟩) 1 [hnd x] (by rfl) (by rw [← HZ.out]; exact SZ.out) (by simp [maxLen]; omega) (by simp; omega) (by rw [← HZ.out]; exact zz) ?_; intro D2 d2 w3 hown hgrow hat; rw [← HZ.out] at hgrow; have q : Blk w3 g 77 _ := blk_grown BG.out hgrow (by rw [← rowAt_eq A3 hs.length c3]; exact row_ne RZ.out BG.out (by decide)); have q0 := q.cell 2; have q1 := q.frozen 2; have q2 := q.lt; have OW := Lib.hid hown; have GR := Lib.hid hgrow; clear hown hgrow hat q; simp only [List.getElem?_toArray, List.getElem?_cons_succ, List.getElem?_cons_zero] at q0))
  all_goals (
    have DV := Dfr.order H0.out (KW.out.trans KZ.out) GR.out OW.out
    have EB : Below lo w w3 := Below.app ((KW.out.trans KZ.out).below (by exact hlo) (.inl (Nat.le_refl _))) hlo RZ.out (Nat.le_refl _) GR.out
    have HX : Blk w3 w.heap.size 42 (afC x) := (B0.out.kept KZ.out (.inl (Nat.le_refl _))).off (Off.app RZ.out GR.out) (by rfl)
    rw [show (hs ++ [hnd x]).length = hs.length + 1 from by simp] at DV
    obtain ⟨V, hV⟩ : ∃ V, V = w3.setCell ⟨g, 2, none⟩ (.slice D2 (hs.length + 1) d2) := ⟨_, rfl⟩
    rw [← hV] at DV
    have BX : Blk V w.heap.size 42 (afC x) := by rw [hV]; exact HX.far (by have := H0.out.blk.lt; show w.heap.size ≠ g; omega) _
    have BL : Below lo w V := by rw [hV]; exact EB.setCell H0.out.glo _
    obtain ⟨w5, hp, hm5, k5⟩ := (DV.map.kept (Kept.refl 0 0 V).drew (.inl (Nat.le_refl _))).put HN.out (clo w.heap.size)
    have PU : (Instr.mapUpdate 75 (.map (some m)) (.agg #[.int .i64 x.slot, .int .i64 x.age]) (.func (.func 69) #[] #[.pointer (some ⟨w.heap.size, 0, none⟩)])).run Try.prog V.drew = .ok () w5 := hp
    have vg := DV.blk.lt
    have vx := BX.lt
    have v3 : V.cell? ⟨g, 3, none⟩ = some (.map (some m)) := DV.blk.cell 3
    have v0 : V.cell? ⟨w.heap.size, 0, none⟩ = some (.int .i64 x.slot) := BX.cell 0
    have v1 : V.cell? ⟨w.heap.size, 1, none⟩ = some (.int .i64 x.age) := BX.cell 1
    have FR : ∀ k, k < w.heap.size → k ≠ g → k ≠ m → some k ≠ rowAt A3 → w5.heap[k]? = w.heap[k]? := by
      intro k hk hg hm hr
      have kz := (KW.out.trans KZ.out)
      have z1 := kz.size
      have z2 := GR.out.size
      have zV : V.heap.size = w3.heap.size := by rw [hV]; simp [World.setCell]
      rw [k5.block k (by show k < V.heap.size; omega) (by omega)]
      show V.heap[k]? = _
      rw [hV, Below.heap_setCell _ _ _ _ (by show k ≠ g; exact hg), GR.out.block k (by omega) hr, kz.block k hk (.inr (Nat.zero_le _))]
    have FIN : Hid (∃ D d b, Dfr w5 lo g m A1 c1 A2 c2 D d t (hs ++ [hnd x]) (ps ++ [(x, b)]) ∧ Below lo w w5 ∧ ∀ k, k < w.heap.size → k ≠ g → k ≠ m → some k ≠ rowAt A3 → w5.heap[k]? = w.heap[k]?) := by
      refine ⟨D2, d2, w.heap.size, Dfr.mapped (DV.kept (Kept.refl 0 0 V).drew) k5 (by rw [show kvOf (ps ++ [(x, w.heap.size)]) = kvOf ps ++ [(hnd x, clo w.heap.size)] from by simp [kvOf]]; exact hm5) ?_ ?_, (BL.trans ((Kept.refl 0 0 V).drew.below (B := lo) (by have := BL.size; omega) (.inl (Nat.le_refl _)))).trans (k5.below (B := lo) (by have := BL.size; show lo ≤ V.heap.size; omega) (.inr DV.mlo)), FR⟩
      · intro p hp
        rcases List.mem_append.1 hp with hp | hp
        · exact ⟨(DV.box p hp).1, (DV.box p hp).2.drew⟩
        · simp only [List.mem_cons, List.not_mem_nil, or_false] at hp
          subst hp
          exact ⟨hlo, BX.drew⟩
      · rw [List.map_append, List.nodup_append]
        refine ⟨DV.nod, by simp, ?_⟩
        intro a ha b hb e
        simp at hb
        subst hb
        obtain ⟨p, hp, rfl⟩ := List.mem_map.1 ha
        have := (H0.out.box p hp).2.lt
        omega
    have HV := Lib.hid hV
    clear FR hp hm5 k5 DV EB HX BX BL hV OW GR q0 q1 q2
    go_upto_region 2 with fail
    rw [← HV.out]
    go_region
    go_wp2_with fail
    go_end0
    exact ⟨rfl, FIN.out⟩)
end Go.Proofs.Ytnnbfcmbcjkpoaa
