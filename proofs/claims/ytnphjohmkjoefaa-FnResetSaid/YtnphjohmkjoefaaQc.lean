/- The program's timers in memory, and how it makes them of a value; no condition beyond that the timers can be read. -/
import Derived.Test.YtnphjohmkjoefaaQb
import Derived.Test.YtnphjohmkjoefaaTt
import Derived.Test.YtnphjohmkjoefaaTv
import Derived.Deep.RegionLaw
namespace Go.Proofs.Ytnphjohmkjoefaa
open Go.RowKit Go.Sort

/-- A timer of the program: its block, the block of its element, what it is. -/
structure Tr where
  p : Nat
  e : Nat
  x : Tm
/-- How a pointer lies in memory. -/
def ptR : Rec Nat := ⟨1, fun p => [toBlk p], fun _ => rfl, by decide, fun x u hu => by
  simp only [List.mem_cons, List.not_mem_nil, or_false] at hu
  subst hu
  rfl⟩
theorem ptR_k : ptR.k = 1 := rfl
theorem Try.infoPt : (Try.prog.info? 44).map (fun i => (i.zero, i.size, i.bytes)) = some (some (.pointer none), 1, 8) := by kernel_rfl
theorem ptSlice : SliceOf Try.prog 53 44 ptR.k 8 := SliceOf.of Try.underlying53 Try.infoPt rfl
theorem ptR_flat (ps : List Nat) : ptR.flat ps = ps.map toBlk := by
  induction ps with
  | nil => rfl
  | cons p r ih => rw [Rec.flat_cons, ih]; rfl
def TimAt (w : World) (z : Tr) : Prop := Blk w z.p 70 #[toBlk z.e, .int .i64 z.x.what, .int .i64 z.x.whom, .bool z.x.armed] ∧ ElAt w z.e z.x.due z.x.seq
/-- The program's timers in memory, in blocks from lo on. -/
structure Alm (w : World) (lo b : Nat) (par : Value) (t : PT) (D : Option Addr) (d : Nat) (zs : List Tr) (next : Int) : Prop where
  blk : Blk w b 57 #[t.ptr, .slice D zs.length d, .int .i64 next]
  row : w.ownsRow lo 44 ptR.k (.slice D zs.length d) zs.length (ptR.flat (zs.map Tr.p))
  tim : ∀ z ∈ zs, TimAt w z
  nd : (zs.map Tr.p).Nodup
  lay : Lay w par t
  tnd : t.blocks.Nodup
  bnew : lo ≤ b
  pnew : ∀ z ∈ zs, lo ≤ z.p
  tnew : ∀ g ∈ t.blocks, lo ≤ g
section
variable {w w' : World} {lo b d : Nat} {par : Value} {t : PT} {D : Option Addr} {zs : List Tr} {next : Int}
theorem TimAt.kept {lo hi : Nat} {z : Tr} (h : TimAt w z) (hk : Kept lo hi w w') (hr : hi ≤ lo) : TimAt w' z := ⟨h.1.kept hk (.inl hr), h.2.kept hk (.inl hr)⟩
theorem Alm.kept (h : Alm w lo b par t D d zs next) (hk : Kept 0 0 w w') : Alm w' lo b par t D d zs next :=
  ⟨h.blk.kept hk (.inl (Nat.le_refl _)), row_kept h.row hk, fun z hz => (h.tim z hz).kept hk (Nat.le_refl _), h.nd, h.lay.kept hk (.inl (Nat.le_refl _)), h.tnd, h.bnew, h.pnew, h.tnew⟩
theorem Alm.at_ (h : Alm w lo b par t D d zs next) {k : Nat} (hk : k < zs.length) : ∃ ad, D = some ad ∧ w.cell? (ad.add k) = some (toBlk zs[k].p) := by
  have h0 : OwnZ w lo w.heap.size 44 ptR.k D zs.length d (ptR.flat (zs.map Tr.p)) := OwnZ.of_row h.row
  obtain ⟨h1, h2⟩ := OwnZ.rd h0
  obtain ⟨ad, e, _, hc⟩ := h2.at_ (k := k) (by simpa using hk)
  have := hc 0 (toBlk zs[k].p) (by simp [ptR])
  exact ⟨ad, e, by simpa [ptR_k] using this⟩
theorem Alm.get (h : Alm w lo b par t D d zs next) {k : Nat} (hk : k < zs.length) : TimAt w zs[k] := h.tim _ (List.getElem_mem hk)
end
/-- Every block of another type stays as it is. -/
def Beside (e : TypeId) (w w' : World) : Prop := ∀ g t cs, e ≠ t → Blk w g t cs → Blk w' g t cs
theorem Beside.trans {e : TypeId} {w w' w'' : World} (h : Beside e w w') (k : Beside e w' w'') : Beside e w w'' := fun g t cs hne hb => k g t cs hne (h g t cs hne hb)
theorem Beside.of_kept {e : TypeId} {w w' : World} (h : Kept 0 0 w w') : Beside e w w' := fun _ _ _ _ hb => hb.kept h (.inl (Nat.le_refl _))
theorem Beside.app {w w' : World} {lo e k n c : Nat} {D : Option Addr} {xs : List Value} (h : w.ownsRow lo e k (.slice D n c) n xs) (hg : w.grownBy w' (rowAt D)) : Beside e w w' :=
  fun _ _ _ hne hb => blk_grown hb hg (by rw [← rowAt_eq D n c]; exact row_ne h hb hne)
theorem Beside.set_ {w : World} {g : Nat} {e : TypeId} {cs : Array Value} (h : Blk w g e cs) (i : Nat) (u : Value) : Beside e w (w.setCell ⟨g, i, none⟩ u) := fun _ _ _ hne hb => hb.far (blk_ne hb h (Ne.symm hne)) u
theorem ElAt.beside {e : TypeId} {w w' : World} {g : Nat} {d s : Int} (h : ElAt w g d s) (k : Beside e w w') (hne : e ≠ 61) : ElAt w' g d s := by
  obtain ⟨x, y, z, h⟩ := h; exact ⟨x, y, z, k _ _ _ hne h⟩
theorem TimAt.beside {e : TypeId} {w w' : World} {z : Tr} (h : TimAt w z) (k : Beside e w w') (hne : e ≠ 61) (hne' : e ≠ 70) : TimAt w' z := ⟨k _ _ _ hne' h.1, h.2.beside k hne⟩
theorem Lay.beside {e : TypeId} {w w' : World} (k : Beside e w w') (hne : e ≠ 61) : ∀ {u : PT} {par : Value}, Lay w par u → Lay w' par u
  | .nil, _, _ => trivial
  | .node _ _ _ _ _, _, h => ⟨k _ _ _ hne h.1, h.2.1.beside k hne, h.2.2.beside k hne⟩
theorem Alm.low {w : World} {lo lo' b d : Nat} {par : Value} {t : PT} {D : Option Addr} {zs : List Tr} {next : Int} (h : Alm w lo b par t D d zs next) (hl : lo' ≤ lo) : Alm w lo' b par t D d zs next :=
  ⟨h.blk, ownsRow_lo h.row hl, h.tim, h.nd, h.lay, h.tnd, Nat.le_trans hl h.bnew, fun z hz => Nat.le_trans hl (h.pnew z hz), fun g hg => Nat.le_trans hl (h.tnew g hg)⟩
/-- One timer more. -/
theorem Alm.push {Y Z w3 : World} {lo b d d2 : Nat} {par : Value} {t : PT} {D D2 : Option Addr} {zs : List Tr} {next : Int} (h : Alm Y lo b par t D d zs next) (z : Tr) (hz : TimAt Y z) (hn : z.p ∉ zs.map Tr.p) (hl : lo ≤ z.p) (kZ : Kept 0 0 Y Z) (hgrow : Z.grownBy w3 (rowAt D))
    (hown : w3.ownsRow lo 44 ptR.k (.slice D2 (zs.map Tr.p ++ [z.p]).length d2) (zs.map Tr.p ++ [z.p]).length (ptR.flat (zs.map Tr.p ++ [z.p]))) :
    Alm (w3.setCell ⟨b, 1, none⟩ (.slice D2 (zs.map Tr.p ++ [z.p]).length d2)) lo b par t D2 d2 (zs ++ [z]) next ∧ ∀ K, Kept 0 0 K Y → K.heap.size ≤ lo → Kept 0 0 K (w3.setCell ⟨b, 1, none⟩ (.slice D2 (zs.map Tr.p ++ [z.p]).length d2)) := by
  have rz := row_kept h.row kZ
  have s3 : Beside 44 Y w3 := (Beside.of_kept kZ).trans (Beside.app rz hgrow)
  have b3 := s3 _ _ _ (by decide) h.blk
  have s4 := Beside.set_ b3 1 (.slice D2 (zs.map Tr.p ++ [z.p]).length d2)
  have e : (zs ++ [z]).map Tr.p = zs.map Tr.p ++ [z.p] := by simp
  have el : (zs ++ [z]).length = (zs.map Tr.p ++ [z.p]).length := by simp
  refine ⟨⟨?_, ?_, ?_, ?_, ?_, h.tnd, h.bnew, ?_, h.tnew⟩, ?_⟩
  · have := b3.set_ 1 (.slice D2 (zs.map Tr.p ++ [z.p]).length d2)
    rw [el]
    simpa using this
  · rw [e, el]
    exact row_other hown (row_ne hown b3 (by decide)) ((Kept.refl b (b + 1) w3).setCell (.inr ⟨Nat.le_refl _, Nat.lt_succ_self _⟩) _)
  · intro y hy
    rcases List.mem_append.1 hy with hy | hy
    · exact ((h.tim y hy).beside s3 (by decide) (by decide)).beside s4 (by decide) (by decide)
    · simp at hy
      subst hy
      exact (hz.beside s3 (by decide) (by decide)).beside s4 (by decide) (by decide)
  · rw [e]
    refine List.nodup_append.2 ⟨h.nd, by simp, ?_⟩
    intro a ha c hc hac
    simp at hc
    subst hc hac
    exact hn ha
  · exact (h.lay.beside s3 (by decide)).beside s4 (by decide)
  · intro y hy
    rcases List.mem_append.1 hy with hy | hy
    · exact h.pnew y hy
    · simp at hy; subst hy; exact hl
  · intro K kK hK
    exact ((kK.trans kZ).app hgrow (fun g hg => Nat.le_trans hK (own_row_lo rz g hg).1)).setCell (.inl (Nat.le_trans hK h.bnew)) _
theorem own_lit1 (w : World) (p : Nat) : (w.alloc (.cells #[toBlk p] 44)).ownsRow w.heap.size 44 ptR.k (.slice (some ⟨w.heap.size, 0, none⟩) 1 1) 1 (ptR.flat [p]) :=
  ⟨rfl, .inr ⟨w.heap.size, 1, _, rfl, Nat.le_refl _, heap_alloc_new w _, Nat.le_refl _, by unfold maxLen; omega, rfl, rfl⟩⟩
/-- What the making of the program's timers returns. -/
def AlmPost (T : Tms) (w : World) (e : Ending) (w' : World) : Prop :=
  Kept 0 0 w w' ∧ ∃ p, e = .returned (.tuple #[.pointer p, .bool (timersOkB T)]) ∧ (timersOkB T = true → ∃ b t D d zs, p = some ⟨b, 0, none⟩ ∧ Alm w' w.heap.size b (.pointer none) t D d zs T.next ∧ zs.map Tr.x = T.list ∧ t.tree.pre = T.heap ∧ t.tree.ok = true ∧ ∀ z ∈ zs, z.x.armed = true → InT t z.x z.e)
/-- Where the making stands behind k timers. -/
structure MakeA (T : Tms) (t : PT) (lo b k : Nat) (V wr : World) (D : Option Addr) (d : Nat) (zs : List Tr) : Prop where
  alm : Alm wr lo b (.pointer none) t D d zs T.next
  eq : zs.map Tr.x = T.list.take k
  inT : ∀ z ∈ zs, z.x.armed = true → InT t z.x z.e
  kept : Kept 0 0 V wr
theorem MakeA.len {T : Tms} {t : PT} {lo b k d : Nat} {V wr : World} {D : Option Addr} {zs : List Tr} (h : MakeA T t lo b k V wr D d zs) (hk : k ≤ T.list.length) : zs.length = k := by
  have := congrArg List.length h.eq
  simp at this
  omega
/-- The element that was found for a timer, or none. -/
def ElemSt (T : Tms) (t : PT) (k : Nat) (X : World) (hk : k < T.list.length) (e : Value) : Prop :=
  ∃ eo : Option Nat, e = .pointer (eo.map fun g => ⟨g, 0, none⟩) ∧ match eo with
    | none => timersOkB T = false
    | some g => ∃ d', ElAt X g d' T.list[k].seq ∧ (d' = T.list[k].due → T.list[k].armed = true → InT t T.list[k] g) ∧ (d' ≠ T.list[k].due → timersOkB T = false)
/-- What is not nil is found. -/
theorem not_in {T : Tms} {t : PT} (hp : t.tree.pre = T.heap) {k : Nat} (hk : k < T.list.length) (ha : T.list[k].armed = true) (h : ∀ e, ¬ InT t T.list[k] e) : timersOkB T = false :=
  timersOk_no fun o => by obtain ⟨e, he⟩ := ok_match hp o (List.getElem_mem hk) ha; exact h e he

set_option maxHeartbeats 6400000 in
set_option maxRecDepth 100000 in
theorem alarmsOf_any (T : Tms) (v : Value) (w : World) (h : RdM w w.heap.size v T) : Calls Try.prog 28 #[v] w (AlmPost T w) := by
  obtain ⟨hv, lv, rfl, r1, r2⟩ := h
  have m1 := r1.len
  have m2 := r2.len
  unfold maxLen at m1 m2
  obtain ⟨A1, c1, rfl, s1⟩ := r1
  obtain ⟨A2, c2, rfl, s2⟩ := r2
  have R1 : Hid (RdT w w.heap.size (.slice A1 T.heap.length c1) T.heap) := ⟨A1, c1, rfl, s1⟩
  have R2 : Hid (RdTm w w.heap.size (.slice A2 T.list.length c2) T.list) := ⟨A2, c2, rfl, s2⟩
  have S2 := Lib.hid s2.rd
  clear s1 s2
  obtain ⟨V, hV⟩ : ∃ V, V = w.alloc (.cells #[.slice A1 T.heap.length c1, .slice A2 T.list.length c2, .int .i64 T.next] 27) := ⟨_, rfl⟩
  have KV : Hid (Kept 0 0 w V) := by show Kept _ _ _ _; rw [hV]; exact Kept.alloc0 _ _
  have BV : Hid (Blk V w.heap.size 27 #[.slice A1 T.heap.length c1, .slice A2 T.list.length c2, .int .i64 T.next]) := by show Blk _ _ _ _; rw [hV]; exact Blk.new _ _ _
  have CH := Lib.hid (heapOf_any T.heap _ V (R1.out.up KV.out))
  have zV := KV.out.size
  have yV := BV.out.lt
  have HV := Lib.hid hV
  clear hV
  go_enter Try.func28, Try.ntmps28
  go_wp2_with fail
  rw [← HV.out]
  with_reducible refine CH.out.mono ?_
  rintro e w1 ⟨k1, p, rfl, h1⟩
  have K1 := Lib.hid k1
  have H1 := Lib.hid h1
  have B1 := Lib.hid (BV.out.kept k1 (.inl (Nat.le_refl _)))
  have z1 := k1.size
  clear k1 h1 CH
  cases ho : heapOkB T.heap
  · have E : Hid (timersOkB T = false) := timersOk_no (fun o => by have := o.heap; rw [ho] at this; cases this)
    clear ho
    go_wp2_with fail
    go_ret2
    exact ⟨KV.out.trans K1.out, none, ret_pb E.out.symm, fun hh => by rw [E.out] at hh; cases hh⟩
  · obtain ⟨t, rfl, L⟩ := H1.out ho
    have HO := Lib.hid ho
    have LK := Lib.hid L
    clear H1 ho L
    have b1 := bx1 B1.out
    have b2 := bx2 B1.out
    have CL := Lib.hid (listTest_any T _ w1 (R2.out.up (KV.out.trans K1.out)))
    go_wp2_with fail
    with_reducible refine CL.out.mono ?_
    rintro e w2 ⟨rfl, k2⟩
    have K2 := Lib.hid k2
    have B2 := Lib.hid (B1.out.kept k2 (.inl (Nat.le_refl _)))
    have z2 := k2.size
    clear k2 CL b1 b2 B1
    cases hl : listOkB T
    · have E : Hid (timersOkB T = false) := timersOk_no (fun o => by have := listOk_yes o.listOk; rw [hl] at this; cases this)
      clear hl
      go_wp2_with fail
      go_ret2
      exact ⟨(KV.out.trans K1.out).trans K2.out, none, ret_pb E.out.symm, fun hh => by rw [E.out] at hh; cases hh⟩
    · have LO := Lib.hid (listOk_iff.1 hl)
      have l64 := (listOk_iff.1 hl).len
      clear hl
      have b0 := bx0 B2.out
      have b1 := bx1 B2.out
      have b2 := bx2 B2.out
      have n2 : w.heap.size ≠ w2.heap.size := by omega
      have y2 : w.heap.size < w2.heap.size := by omega
      go_wp2_with fail
      clear b0 b1 b2
      obtain ⟨V3, hV3⟩ : ∃ V3, V3 = w2.alloc (.cells #[t.ptr, .slice none 0 0, .int .i64 T.next] 57) := ⟨_, rfl⟩
      have K3 : Hid (Kept 0 0 V V3) := by show Kept _ _ _ _; rw [hV3]; exact (K1.out.trans K2.out).alloc _
      have M3 : Hid (MakeA T t V.heap.size w2.heap.size 0 V V3 none 0 []) := by
        refine ⟨⟨?_, ⟨rfl, .inl ⟨rfl, rfl⟩⟩, by simp, by simp, ?_, LK.out.nd, by omega, by simp, LK.out.new⟩, by simp, by simp, K3.out⟩
        · rw [hV3]; exact Blk.new _ _ _
        · exact LK.out.lay.kept (K2.out.trans (by rw [hV3]; exact Kept.alloc0 _ _)) (.inl (Nat.le_refl _))
      rw [← hV3]
      clear hV3 K3
      have HZ := Lib.hid LK.out.pre
      have HT := Lib.hid LK.out.ok
      clear HV R1 LK K2 K1 B2
      go_loopw [7, 35] (fun n i wr => ∃ (k : Nat), k ≤ T.list.length ∧ i = .int .i64 k ∧ n = .int .i64 (armedN (T.list.take k)) ∧ ∃ D d zs, Hid (MakeA T t V.heap.size w2.heap.size k V wr D d zs)) (fun _ i _ => T.list.length - (intOf i).toNat)
      case atStart => exact ⟨0, Nat.zero_le _, rfl, rfl, none, 0, [], M3⟩
      case round =>
        clear M3
        obtain ⟨k, hk, rfl, rfl, D, d, zs, MA⟩ := hrel
        have kw := MA.out.kept
        have KW := Lib.hid (KV.out.trans kw)
        have BW := Lib.hid (BV.out.kept kw (.inl (Nat.le_refl _)))
        have zW := kw.size
        clear kw
        by_cases hlt : k < T.list.length
        · have i1 : (k : Int) < (T.list.length : Int) := by omega
          have R := Lib.hid (S2.out.kept (Nat.le_refl _) KW.out (.inl (Nat.le_refl _)))
          obtain ⟨ad, e1, _, d0, d1, d2, d3, d4⟩ := R.out.tm hlt
          subst e1
          obtain ⟨X, hX⟩ : ∃ X, X = (wr.alloc (.cells #[.int .i64 T.list[k].seq, .int .i64 T.list[k].due, .int .i64 T.list[k].what, .int .i64 T.list[k].whom, .bool T.list[k].armed] 50)).alloc (.cells #[.int .i64 T.list[k].due, .int .i64 T.list[k].seq, .pointer none, .pointer none, .pointer none] 61) := ⟨_, rfl⟩
          have KX : Hid (Kept 0 0 wr X) := by show Kept _ _ _ _; rw [hX]; exact (Kept.alloc0 _ _).alloc _
          have BO : Hid (Blk X wr.heap.size 50 #[.int .i64 T.list[k].seq, .int .i64 T.list[k].due, .int .i64 T.list[k].what, .int .i64 T.list[k].whom, .bool T.list[k].armed]) := by show Blk _ _ _ _; rw [hX]; exact (Blk.new _ _ _).alloc _
          have BE : Hid (Blk X (wr.heap.size + 1) 61 #[.int .i64 T.list[k].due, .int .i64 T.list[k].seq, .pointer none, .pointer none, .pointer none]) := by show Blk _ _ _ _; rw [hX]; exact blk2_new _ _ _ _
          have AX := Lib.hid (MA.out.alm.kept KX.out)
          have HX := Lib.hid hX
          clear hX
          go_upto_region 10 with fail
          rw [← HX.out]
          clear d0 d1 d2 d3 d4 HX
          have o1 := by1 BO.out
          have o2 := by2 BO.out
          have o3 := by3 BO.out
          have o4 := by4 BO.out
          have o0 := by0 BO.out
          have EN := Lib.hid (armedN_succ hlt)
          have na := armedN_le (T.list.take k)
          have nk : armedN (T.list.take k) ≤ 64 := by simp only [List.length_take] at na; omega
          go_upto_if 46 with (fail)
          go_cut [7, 10] (fun n e wx => wx = X ∧ n = .int .i64 (armedN (T.list.take (k + 1))) ∧ ElemSt T t k X hlt e)
          case first =>
            cases ha : T.list[k].armed
            · rw [ha] at EN
              have E1 : Hid (armedN (T.list.take (k + 1)) = armedN (T.list.take k)) := by show _ = _; have := EN.out; simpa using this
              go_wp2_with fail
              go_meet
              exact ⟨rfl, by rw [E1.out], some (wr.heap.size + 1), rfl, T.list[k].due, ⟨_, _, _, BE.out⟩, (fun _ h => by rw [ha] at h; cases h), (fun h => absurd rfl h)⟩
            · rw [ha] at EN
              have E1 : Hid (armedN (T.list.take (k + 1)) = armedN (T.list.take k) + 1) := by show _ = _; have := EN.out; simpa using this
              have FA := Lib.hid (findP_any t T.list[k].seq [] _ X AX.out.lay)
              have HA := Lib.hid ha
              clear ha
              go_wp2_with fail
              with_reducible refine FA.out.mono ?_
              rintro e w' ⟨rfl, rfl⟩
              go_wp2_with fail
              go_meet
              refine ⟨rfl, by rw [E1.out]; go_num, ?_⟩
              cases hf : findP t T.list[k].seq [] with
              | none => exact ⟨none, rfl, not_in HZ.out hlt HA.out (fun e ⟨c, l, r, h⟩ => by rw [hf] at h; cases h)⟩
              | some y =>
                obtain ⟨c, u⟩ := y
                obtain ⟨g, d', l, r, hu, hm⟩ := findP_at t _ _ _ hf
                simp only at hu
                subst hu
                refine ⟨some g, rfl, d', AX.out.lay.el _ hm, fun hd _ => ⟨c, l, r, by rw [hf, hd]⟩, fun hd => ?_⟩
                exact not_in HZ.out hlt HA.out (fun e ⟨c', l', r', h⟩ => by rw [hf] at h; injection h with h; injection h with _ h; injection h with _ h; exact hd h)
          case rest =>
            obtain ⟨ew, rfl, eo, rfl, ES⟩ := hcut
            rw [ew]
            clear ew
            cases eo with
            | none =>
              have E := Lib.hid ES
              clear ES
              simp only [Option.map]
              go_upto_region 13 with fail
              go_quiet (fail)
              go_wp2_with fail
              go_ret2
              exact ⟨((KW.out.trans KX.out).drewN _), none, ret_pb E.out.symm, fun hh => by rw [E.out] at hh; cases hh⟩
            | some g =>
              obtain ⟨d', el, hin, hno⟩ := ES
              have EL := Lib.hid el
              have e0 : X.cell? ⟨g, 0, none⟩ = some (.int .i64 d') := el.c0
              simp only [Option.map]
              clear el
              by_cases hd : d' = T.list[k].due
              · subst hd
                have g1 : (T.list[k].due != T.list[k].due) = false := by simp
                have EA : Hid (ElAt X g T.list[k].due T.list[k].seq) := EL.out
                have IN : Hid (T.list[k].armed = true → InT t T.list[k] g) := hin rfl
                clear hin hno
                go_upto_region 13 with fail
                go_quiet (fail)
                go_upto_region 15 with fail
                obtain ⟨Y, hY⟩ : ∃ Y, Y = X.drewN nq := ⟨_, rfl⟩
                have KY : Hid (Kept 0 0 X Y) := by show Kept _ _ _ _; rw [hY]; exact (Kept.refl _ _ _).drewN _
                rw [← hY]
                clear hY o0 o1 o2 o3 o4 e0 g1
                have BY : Hid (Blk Y wr.heap.size 50 #[.int .i64 T.list[k].seq, .int .i64 T.list[k].due, .int .i64 T.list[k].what, .int .i64 T.list[k].whom, .bool T.list[k].armed]) := by exact BO.out.kept KY.out (.inl (Nat.le_refl _))
                have o2 := by2 BY.out
                have o3 := by3 BY.out
                have o4 := by4 BY.out
                have AY := Lib.hid (AX.out.kept KY.out)
                obtain ⟨ps, hps⟩ : ∃ ps, ps = zs.map Tr.p := ⟨_, rfl⟩
                have PL : Hid (ps.length = zs.length) := by show _ = _; rw [hps]; simp
                have ab := AY.out.blk
                rw [← PL.out] at ab
                have a1 := bx1 ab
                have f1 := ab.frozen 1
                have nb : w2.heap.size < Y.heap.size := ab.lt
                have no : wr.heap.size < Y.heap.size := BY.out.lt
                have nob : wr.heap.size ≠ w2.heap.size := blk_ne BY.out ab (by decide)
                obtain ⟨Y1, hY1⟩ : ∃ Y1, Y1 = Y.alloc (.cells #[toBlk (g), .int .i64 T.list[k].what, .int .i64 T.list[k].whom, .bool T.list[k].armed] 70) := ⟨_, rfl⟩
                obtain ⟨Z, hZ⟩ : ∃ Z, Z = (Y1.alloc (.cells #[toBlk Y.heap.size] 44)).drew := ⟨_, rfl⟩
                have K1 : Hid (Kept 0 0 Y Y1) := by show Kept _ _ _ _; rw [hY1]; exact Kept.alloc0 _ _
                have KZ : Hid (Kept 0 0 Y1 Z) := by show Kept _ _ _ _; rw [hZ]; exact (Kept.alloc0 _ _).drew
                have RZ : Hid (Z.ownsRow V.heap.size 44 ptR.k (.slice D ps.length d) ps.length (ptR.flat ps)) := by
                  have := row_kept AY.out.row (K1.out.trans KZ.out)
                  rw [← hps, ← PL.out] at this
                  exact this
                have TZ : Hid (TimAt Y1 ⟨Y.heap.size, g, T.list[k]⟩) := by
                  refine ⟨?_, (EA.out.kept KY.out (.inl (Nat.le_refl _))).kept K1.out (.inl (Nat.le_refl _))⟩
                  rw [hY1]
                  have := Blk.new Y 70 #[toBlk (g), .int .i64 T.list[k].what, .int .i64 T.list[k].whom, .bool T.list[k].armed]
                  exact this
                have SZ : Hid (RdR ptR Z (Y.heap.size + 2) (some ⟨Y.heap.size + 1, 0, none⟩) [Y.heap.size]) := by
                  have h0 : Z.ownsRow Y1.heap.size 44 ptR.k (.slice (some ⟨Y1.heap.size, 0, none⟩) 1 1) 1 (ptR.flat [Y.heap.size]) := by rw [hZ]; exact own_lit1 Y1 Y.heap.size
                  have h1 := (OwnZ.rd (R := ptR) (OwnZ.of_row h0)).2
                  have e1 : Y1.heap.size = Y.heap.size + 1 := by rw [hY1]; simp
                  have e2 : Z.heap.size = Y.heap.size + 2 := by rw [hZ]; simp [World.drew, e1]
                  show RdR _ _ _ _ _
                  rw [e1, e2] at h1
                  exact h1
                have BZ := Lib.hid (BY.out.kept (K1.out.trans KZ.out) (.inl (Nat.le_refl _)))
                have AZ := Lib.hid (ab.kept (K1.out.trans KZ.out) (.inl (Nat.le_refl _)))
                have zz : V.heap.size ≤ Z.heap.size := Nat.le_trans zW (Nat.le_trans KX.out.size (Nat.le_trans KY.out.size (Nat.le_trans K1.out.size KZ.out.size)))
                have HPS := Lib.hid hps
                have HT := Lib.hid ptSlice
                have hp64 : ps.length ≤ 64 := by have := MA.out.len hk; have := PL.out; omega
                have HZ1 := Lib.hid hZ
                have HY1 := Lib.hid hY1
                rw [hZ, hY1] at RZ SZ zz
                clear hps hZ hY1
                go_region_law (first | (refine step_app (R := ptR) rfl (.tmp 68) (.tmp 78) (by rfl) HT.out V.heap.size D d ps (by rfl) (by exact RZ.out) (Y.heap.size + 2) (some ⟨Y.heap.size + 1, 0, none⟩) 1 [Y.heap.size] (by rfl) (by exact SZ.out) (by simp [maxLen]; omega) (by simp; omega) (by exact zz) ?_; intro D2 d2 w3 hown hgrow hat; have hgz : Z.grownBy w3 (rowAt D) := (by rw [HZ1.out, HY1.out]; exact hgrow); have s3 : Beside 44 Z w3 := Beside.app (by rw [HZ1.out, HY1.out]; exact RZ.out) hgz; have B3 := s3 _ _ _ (by decide) BZ.out; have A3 := s3 _ _ _ (by decide) AZ.out; have a13 := bx1 A3; have f13 := A3.frozen 1; have y3 : w2.heap.size < w3.heap.size := A3.lt; have hown3 : w3.ownsRow V.heap.size 44 ptR.k (.slice D2 (ps ++ [Y.heap.size]).length d2) (ps ++ [Y.heap.size]).length (ptR.flat (ps ++ [Y.heap.size])) := hown; clear hown hgrow hat))
                all_goals go_wp2_with fail
                all_goals (have PU := Lib.hid (Alm.push (AY.out.kept K1.out) ⟨Y.heap.size, g, T.list[k]⟩ TZ.out (by intro hm; obtain ⟨z, hz, e⟩ := List.mem_map.1 hm; have := (AY.out.tim z hz).1.lt; simp only at e; omega) (by simp only; omega) KZ.out hgz (D2 := D2) (d2 := d2) (by rw [← HPS.out]; exact hown3)))
                all_goals (have M2 : Hid (MakeA T t V.heap.size w2.heap.size (k + 1) V (w3.setCell ⟨w2.heap.size, 1, none⟩ (.slice D2 (zs.map Tr.p ++ [Y.heap.size]).length d2)) D2 d2 (zs ++ [⟨Y.heap.size, g, T.list[k]⟩])) := ⟨PU.out.1, by rw [List.map_append, MA.out.eq, List.take_succ_eq_append_getElem hlt]; rfl, fun z hz => by
                  rcases List.mem_append.1 hz with hz | hz
                  · exact MA.out.inT z hz
                  · simp at hz; subst hz; exact IN.out, PU.out.2 V (((MA.out.kept.trans KX.out).trans KY.out).trans K1.out) (Nat.le_refl _)⟩)
                all_goals (rw [← HPS.out] at M2; simp only [List.length_append, List.length_cons, List.length_nil, Nat.zero_add] at M2)
                all_goals go_roundw
                all_goals first
                  | (simp [intOf]; omega)
                  | exact ⟨k + 1, by omega, by go_num, rfl, D2, d2, _, M2⟩
              · have g1 : (d' != T.list[k].due) = true := by simpa using hd
                have E := Lib.hid (hno hd)
                clear hd hin hno
                go_upto_region 13 with fail
                go_quiet (fail)
                go_wp2_with fail
                go_ret2
                exact ⟨((KW.out.trans KX.out).drewN _), none, ret_pb E.out.symm, fun hh => by rw [E.out] at hh; cases hh⟩
        · have hkk : k = T.list.length := by omega
          have b0 := bx0 BW.out
          by_cases hc : armedN T.list = T.heap.length
          · have g1 : ((armedN (T.list.take k) : Int) == (T.heap.length : Int)) = true := by
              rw [hkk, List.take_of_length_le (Nat.le_refl _), hc]
              simp
            have eq : zs.map Tr.x = T.list := by have := MA.out.eq; rwa [hkk, List.take_of_length_le (Nat.le_refl _)] at this
            have E : Hid (timersOkB T = true) := timersOk_yes (ok_all HZ.out HO.out l64 LO.out.next LO.out.pre (fun x hx ha => by
              rw [← eq] at hx
              obtain ⟨z, hz, rfl⟩ := List.mem_map.1 hx
              exact ⟨z.e, MA.out.inT z hz ha⟩) hc)
            have EQ := Lib.hid eq
            have AF := Lib.hid (MA.out.alm.low zV)
            clear eq hc hkk
            go_wp2_with fail
            go_quiet (fail)
            go_wp2_with fail
            go_ret2
            refine ⟨KW.out.drewN _, _, ret_pb E.out.symm, fun _ => ⟨_, t, D, d, zs, rfl, AF.out.kept ((Kept.refl 0 0 wr).drewN _), EQ.out, HZ.out, HT.out, MA.out.inT⟩⟩
          · have g1 : ((armedN (T.list.take k) : Int) == (T.heap.length : Int)) = false := by
              rw [hkk, List.take_of_length_le (Nat.le_refl _)]
              simp
              omega
            have E : Hid (timersOkB T = false) := timersOk_no (fun o => hc o.count)
            clear hc hkk
            go_wp2_with fail
            go_quiet (fail)
            go_wp2_with fail
            go_ret2
            refine ⟨KW.out.drewN _, _, ret_pb E.out.symm, fun hh => by rw [E.out] at hh; cases hh⟩
end Go.Proofs.Ytnphjohmkjoefaa
