/- The law of orders returns true for every code, under the contracts of the program's Put, HeapOk, Sorted and Shifted; condition: the code can be read. -/
import Derived.Test.YtggggdloppnopaaAn
namespace Go.Proofs.Ytggggdloppnopaa
open Go.RowKit Go.Sort

theorem natR_set (l : List Nat) (j y : Nat) : natR.flat (l.set j y) = (natR.flat l).set j (nv y) := by rw [natR_flat, natR_flat, List.map_set]
theorem row_far {w w' : World} {base e k n c lo hi : Nat} {D : Option Addr} {xs : List Value} (h : w.ownsRow base e k (.slice D n c) n xs) (hk : Kept lo hi w w') (hr : hi ≤ lo ∨ hi ≤ base) : w'.ownsRow base e k (.slice D n c) n xs :=
  ((OwnZ.of_row h).kept hk (by omega)).1

/-- Two rows of numbers of the call's own, apart. -/
structure TwoR (wr : World) (base : Nat) (D : Option Addr) (d : Nat) (dues : List Nat) (D' : Option Addr) (d' : Nat) (order : List Nat) : Prop where
  a : wr.ownsRow base 2 1 (.slice D dues.length d) dues.length (natR.flat dues)
  b : wr.ownsRow base 2 1 (.slice D' order.length d') order.length (natR.flat order)
  ne : ∀ g, rowAt D = some g → rowAt D' ≠ some g
section
variable {w w' : World} {base d d' d2 lo hi : Nat} {D D' D2 : Option Addr} {dues order dues2 order2 : List Nat}
theorem TwoR.kept (h : TwoR w base D d dues D' d' order) (hk : Kept lo hi w w') (hr : hi ≤ lo ∨ hi ≤ base) : TwoR w' base D d dues D' d' order := ⟨row_far h.a hk hr, row_far h.b hk hr, h.ne⟩
theorem TwoR.appA (h : TwoR w base D d dues D' d' order) (hg : w.grownBy w' (rowAt D)) (ho : w'.ownsRow base 2 1 (.slice D2 dues2.length d2) dues2.length (natR.flat dues2)) (hat : rowAt D2 = rowAt D ∨ rowAt D2 = some w.heap.size) : TwoR w' base D2 d2 dues2 D' d' order := by
  refine ⟨ho, h.b.kept hg ?_, fun g hg2 => ?_⟩
  · rw [rowAt_eq]
    cases e : rowAt D' with
    | none => exact .inl rfl
    | some b => exact .inr (fun e2 => h.ne b (e2 ▸ rfl) e)
  · rcases hat with e | e
    · exact h.ne g (e ▸ hg2)
    · intro e3
      rw [e] at hg2
      injection hg2 with hg2
      have := (own_row_lo h.b g e3).2
      omega
theorem TwoR.appB (h : TwoR w base D d dues D' d' order) (hg : w.grownBy w' (rowAt D')) (ho : w'.ownsRow base 2 1 (.slice D2 order2.length d2) order2.length (natR.flat order2)) (hat : rowAt D2 = rowAt D' ∨ rowAt D2 = some w.heap.size) : TwoR w' base D d dues D2 d2 order2 := by
  refine ⟨h.a.kept hg ?_, ho, fun g hg2 e3 => ?_⟩
  · rw [rowAt_eq]
    cases e : rowAt D with
    | none => exact .inl rfl
    | some b => exact .inr (fun e2 => h.ne b e (e2 ▸ rfl))
  · rcases hat with e | e
    · exact h.ne g hg2 (e ▸ e3)
    · rw [e] at e3
      injection e3 with e3
      have := (own_row_lo h.a g hg2).2
      omega
theorem TwoR.alloc (h : TwoR w base D d dues D' d' order) (o : Obj) : TwoR (w.alloc o) base D d dues D' d' order := h.kept (Kept.alloc0 _ _) (.inl (Nat.le_refl _))
/-- A store into the second row. -/
theorem TwoR.store {b : Nat} (h : TwoR w base D d dues (some ⟨b, 0, none⟩) d' order) (j y : Nat) : TwoR (w.setCell ⟨b, j, none⟩ (.int .i64 y)) base D d dues (some ⟨b, 0, none⟩) d' (order.set j y) := by
  have hs := h.b.stored j (.int .i64 y)
  refine ⟨h.a.kept hs.2 ?_, ?_, h.ne⟩
  · rw [rowAt_eq]
    cases e : rowAt D with
    | none => exact .inl rfl
    | some g => exact .inr (fun e2 => h.ne g e (by injection e2 with e2; subst e2; rfl))
  · rw [natR_set, List.length_set]
    exact hs.1
end
theorem natLit (w : World) (r : Nat) : RdR natR (w.alloc (.cells #[.int .i64 r] 2)) (w.alloc (.cells #[.int .i64 r] 2)).heap.size (some ⟨w.heap.size, 0, none⟩) [r] :=
  (OwnZ.rd (R := natR) (OwnZ.of_row (World.ownsRow_lit (e := 2) (size := 1) (base := w.heap.size) w #[.int .i64 r] 1 (Nat.le_refl _) (by unfold maxLen; omega) rfl))).2

theorem Dice.grown {w w' : World} {g c : Nat} {A D : Option Addr} {xs : List Int} (h : Dice w g A c xs) (hg : w.grownBy w' (rowAt D)) (hD : ∀ b, rowAt D = some b → g < b) : Dice w' g A c xs := by
  cases D with
  | none => exact h.kept (Kept.of_grown (lo := 0) (hi := 0) hg (by intro k hk; cases hk)) (.inl (Nat.le_refl _))
  | some ad => exact h.kept (Kept.of_grown (lo := ad.block) (hi := ad.block + 1) hg (by intro k hk; injection hk with hk; subst hk; exact ⟨Nat.le_refl _, Nat.lt_succ_self _⟩)) (.inr (hD _ rfl))
/-- The law's state while it makes its lists. -/
structure MakeSt (w wr : World) (base : Nat) (A : Option Addr) (c : Nat) (xs : List Int) (D : Option Addr) (d : Nat) (dues : List Nat) (D' : Option Addr) (d' : Nat) (order : List Nat) : Prop where
  two : TwoR wr base D d dues D' d' order
  dice : Dice wr w.heap.size A c xs
  kept : Kept 0 0 w wr
  hz : base ≤ wr.heap.size
theorem MakeSt.draw {w wr wr' : World} {base c d d' : Nat} {A D D' : Option Addr} {xs : List Int} {dues order : List Nat} (h : MakeSt w wr base A c xs D d dues D' d' order) (hb : w.heap.size < base) (hd : Dice wr' w.heap.size A c xs) (hk : Kept w.heap.size (w.heap.size + 1) wr wr') : MakeSt w wr' base A c xs D d dues D' d' order :=
  ⟨h.two.kept hk (by omega), hd, h.kept.trans2 hk (.inr (Nat.le_refl _)), Nat.le_trans h.hz hk.size⟩

/-- What is left of a heap behind k removals. -/
structure Left (S : List Tw) (k : Nat) (t : HTree) : Prop where
  ok : t.ok = true
  un : uniq t
  len : t.size ≤ 64
  rest : sortT t = S.drop k
theorem Left.step {S : List Tw} {k : Nat} {t : HTree} (h : Left S k t) (hk : k < S.length) :
    shiftOk t.pre = true ∧ shiftedX t.pre = S[k] ∧ ∃ t', shiftedL t.pre = t'.pre ∧ Left S (k + 1) t' := by
  cases t with
  | nil =>
    have := h.rest
    rw [sortT_nil] at this
    have := congrArg List.length this
    simp at this
    omega
  | node d s l r =>
    have hr := h.rest
    rw [sortT_node, List.drop_eq_getElem_cons hk] at hr
    injection hr with e1 e2
    have hok : heapOkB (HTree.node d s l r).pre = true := heapOk_pre h.ok h.un h.len
    have hsk : shiftOk (HTree.node d s l r).pre = true := by unfold shiftOk; rw [hok]; rfl
    obtain ⟨a1, a2, a3, a4, a5⟩ := ok_node h.ok
    obtain ⟨u1, u2, u3, _, _⟩ := uniq_node h.un
    have hl := h.len
    simp only [HTree.size] at hl
    refine ⟨hsk, ?_, mergeT l r, ?_, merge_ok _ _ a4 a5 u3, uniq_merge u1 u2 u3, by rw [merge_size]; omega, e2⟩
    · unfold shiftedX
      rw [hsk, if_pos rfl, treeOf_of _ h.ok]
      exact e1
    · unfold shiftedL
      rw [hsk, if_pos rfl, treeOf_of _ h.ok]
      rfl
theorem Left.end_ {S : List Tw} {k : Nat} {t : HTree} (h : Left S k t) (hk : S.length ≤ k) : t = .nil := by
  cases t with
  | nil => rfl
  | node d s l r =>
    have := h.rest
    rw [sortT_node, List.drop_of_length_le hk] at this
    cases this
/-- Where the elements of the sorted list come from. -/
theorem Heaped.at_ {dues order : List Nat} {t : HTree} (h : Heaped dues order t) {x : Tw} (hx : x ∈ sortT t) (hb : ∀ o ∈ order, o < dues.length) : ∃ o : Nat, ∃ ho : o < dues.length, x = ⟨(dues[o] : Nat), o, 0⟩ := by
  obtain ⟨o, ho, rfl⟩ := List.mem_map.1 (h.els.subset ((sortT_els t).subset hx))
  have hlt := hb o ho
  exact ⟨o, hlt, by simp [mkTw, List.getD_eq_getElem?_getD, hlt]⟩

set_option maxRecDepth 100000 in
set_option maxHeartbeats 16000000 in
theorem lawOrder_small (hP : DoesTII 36 putL putOk) (hO : DoesB 17 heapOkB) (hS : DoesT 18 sortedL) (hF : DoesS 19 shiftedX shiftedL shiftOk) (xs : List Int) (A : Option Addr) (c : Nat) (w : World) (h : Rd (Value.int .u8) w w.heap.size A xs) (hx : ∀ x ∈ xs, 0 ≤ x ∧ x ≤ 255) (hl : xs.length ≤ 4096) :
    Calls Try.prog 3 #[.slice A xs.length c] w fun e w' => e = .returned (.bool true) ∧ Kept 0 0 w w' := by
  have hm := h.1
  have HB : Hid (decide (4096 < xs.length) = false) := by show _ = _; simpa using hl
  have H := Lib.hid h
  have HX := Lib.hid hx
  have HP := Lib.hid hP
  have HO := Lib.hid hO
  have HS := Lib.hid hS
  have HF := Lib.hid hF
  have HT := Lib.hid twNat
  clear h hx hP hO hS hF
  go_enter Try.func3, Try.ntmps3
  go_wp2_with fail
  with_reducible refine (big_any _ _ _ _ hm).mono ?_
  rintro e w' ⟨rfl, rfl⟩
  rw [HB.out]
  go_wp2_with fail
  with_reducible refine (rollD _ _ _ _ _ H.out HX.out hl).mono ?_
  rintro e w1 ⟨rfl, hd, hk⟩
  have D1 := Lib.hid hd
  have K1 := Lib.hid hk
  have l1 := hd.lt
  clear hd hk H HX hm HB
  go_wp2_with fail
  with_reducible refine (belowD _ _ _ _ _ _ D1.out (by omega) (by omega)).mono ?_
  rintro e w2 ⟨n, rfl, hn, hd, hk⟩
  have D2 := Lib.hid hd
  have K2 := Lib.hid (K1.out.trans2 hk (.inr (Nat.le_refl _)))
  have l2 := hd.lt
  clear hd hk D1 K1
  have M0 : Hid (MakeSt w ((w2.alloc (.cells #[] 2)).alloc (.cells #[] 2)) w2.heap.size A c xs (some ⟨w2.heap.size, 0, none⟩) 0 [] (some ⟨w2.heap.size + 1, 0, none⟩) 0 (List.range 0)) := by
    have a1 := World.ownsRow_lit (e := 2) (size := 1) (base := w2.heap.size) w2 #[] 0 (Nat.le_refl _) (by unfold maxLen; omega) rfl
    have a2 := World.ownsRow_lit (e := 2) (size := 1) (base := w2.heap.size) (w2.alloc (.cells #[] 2)) #[] 0 (by simp) (by unfold maxLen; omega) rfl
    have z : (w2.alloc (.cells #[] 2)).heap.size = w2.heap.size + 1 := by simp
    rw [z] at a2
    refine ⟨⟨a1.alloc _, a2, fun g hg e => ?_⟩, D2.out.kept ((Kept.alloc0 _ _).alloc _) (.inl (Nat.le_refl _)), (K2.out.alloc _).alloc _, by simp; omega⟩
    injection hg with hg
    injection e with e
    simp at hg e
    omega
  clear D2 K2
  go_wp2_with fail
  go_loopw [5, 6, 7] (fun v v' i wr => ∃ (k : Nat) (dues : List Nat) (D D' : Option Addr) (d d' : Nat), k ≤ n ∧ i = .int .i64 k ∧ v = .slice D dues.length d ∧ v' = .slice D' k d' ∧ Hid (dues.length = k) ∧ Hid (MakeSt w wr w2.heap.size A c xs D d dues D' d' (List.range k))) (fun _ _ i _ => n - (intOf i).toNat)
  case atStart => exact ⟨0, [], _, _, 0, 0, Nat.zero_le _, rfl, rfl, rfl, Lib.hid rfl, M0⟩
  case round =>
    clear M0
    obtain ⟨k, dues, D, D', d, d', hk, rfl, rfl, rfl, LD, M⟩ := hrel
    by_cases hlt : k < n
    · have i1 : (k : Int) < (n : Int) := by omega
      go_wp2_with fail
      with_reducible refine (belowD _ _ _ _ _ _ M.out.dice (by omega) (by omega)).mono ?_
      rintro e w3 ⟨r, rfl, hr, hd, hk3⟩
      have M3 := Lib.hid (M.out.draw l2 hd hk3)
      clear hd hk3 M
      have dl : dues.length ≤ 20 := by have := LD.out; omega
      have R1 := Lib.hid (natLit w3 r)
      have M4 := Lib.hid (M3.out.two.alloc (.cells #[.int .i64 r] 2))
      have E4 := Lib.hid (M3.out.dice.kept (Kept.alloc0 w3 (.cells #[.int .i64 r] 2)) (.inl (Nat.le_refl _)))
      have K4 := Lib.hid (M3.out.kept.alloc (.cells #[.int .i64 r] 2))
      have z3 := M3.out.hz
      clear M3
      have LR : Hid ((List.range k).length = k) := List.length_range
      go_wp2_with (first
        | (at_builtin; refine wpList_app (R := natR) rfl (.tmp 35) (.tmp 38) rfl HT.out w2.heap.size D d dues rfl M4.out.a _ (some ⟨w3.heap.size, 0, none⟩) 1 [r] rfl R1.out (by simp only [List.length_singleton]; unfold maxLen; omega) (by simp only [List.length_singleton]; omega) (by simp; omega) ?_; intro D5 d5 w5 hown hgrow hat; have zA : (w3.alloc (.cells #[.int .i64 r] 2)).heap.size ≤ w5.heap.size := hgrow.size; have zB : w3.heap.size < w5.heap.size := (by simp at zA; omega); have M5 := Lib.hid (M4.out.appA hgrow hown hat); have K5 := Lib.hid (K4.out.app hgrow (fun g hg => Nat.le_trans (Nat.le_of_lt l2) (own_row_lo M4.out.a g hg).1)); have E5 := Lib.hid (E4.out.grown hgrow (fun g hg => Nat.lt_of_lt_of_le l2 (own_row_lo M4.out.a g hg).1)); have M6 := Lib.hid (M5.out.alloc (.cells #[.int .i64 k] 2)); have E6 := Lib.hid (E5.out.kept (Kept.alloc0 w5 (.cells #[.int .i64 k] 2)) (.inl (Nat.le_refl _))); have K6 := Lib.hid (K5.out.alloc (.cells #[.int .i64 k] 2)); have R2 := Lib.hid (natLit w5 k); clear hown hgrow hat zA M5 E5 K5 M4 E4 K4 R1)
        | (at_builtin; refine wpList_app (R := natR) rfl (.tmp 40) (.tmp 42) rfl HT.out w2.heap.size D' d' (List.range k) (by rw [LR.out]; rfl) M6.out.b _ (some ⟨w5.heap.size, 0, none⟩) 1 [k] rfl R2.out (by simp only [List.length_singleton, List.length_range]; unfold maxLen; omega) (by simp only [List.length_singleton, List.length_range]; omega) (by simp; omega) ?_; intro D7 d7 w7 hown hgrow hat))
      have hrs : List.range k ++ [k] = List.range (k + 1) := List.range_succ.symm
      have M7 := Lib.hid (M6.out.appB hgrow hown hat)
      rw [hrs] at M7
      have K7 := Lib.hid (K6.out.app hgrow (fun g hg => Nat.le_trans (Nat.le_of_lt l2) (own_row_lo M6.out.b g hg).1))
      have E7 := Lib.hid (E6.out.grown hgrow (fun g hg => Nat.lt_of_lt_of_le l2 (own_row_lo M6.out.b g hg).1))
      have z7 : w2.heap.size ≤ w7.heap.size := by have := hgrow.size; simp at this; omega
      clear hown hgrow hat M6 E6 K6 R2 hrs
      refine ⟨⟨k + 1, dues ++ [r], D5, D7, d5, d7, by omega, by go_num, by rw [List.length_append]; rfl, rfl, Lib.hid (by rw [List.length_append, LD.out]; rfl), ⟨M7.out, E7.out, K7.out, z7⟩⟩, ?_⟩
      simp [intOf]; omega
    · have hkn : k = n := by omega
      subst hkn
      have dl : dues.length ≤ 20 := by have := LD.out; omega
      clear hlt
      go_wp2_with fail
      go_loopw [8] (fun i wr => ∃ (j : Int) (ord : List Nat), -1 ≤ j ∧ j < k ∧ i = .int .i64 j ∧ Hid (ord.Perm (List.range k)) ∧ Hid (MakeSt w wr w2.heap.size A c xs D d dues D' d' ord)) (fun i _ => (intOf i).toNat)
      case atStart => exact ⟨(k : Int) - 1, List.range k, by omega, by omega, rfl, Lib.hid (List.Perm.refl _), M⟩
      case round =>
        clear M
        obtain ⟨j, ord, hj1, hj2, rfl, PM, M⟩ := hrel
        have ol : Hid (ord.length = k) := by show _ = _; rw [PM.out.length_eq, List.length_range]
        by_cases hj : 0 < j
        · obtain ⟨a, rfl⟩ := Int.eq_ofNat_of_zero_le (show 0 ≤ j by omega)
          go_wp2_with fail
          with_reducible refine (belowD _ _ _ _ _ _ M.out.dice (by omega) (by omega)).mono ?_
          rintro e w3 ⟨b, rfl, hb, hd, hk3⟩
          have M3 := Lib.hid (M.out.draw l2 hd hk3)
          clear hd hk3 M
          have ha : a < ord.length := by have := ol.out; omega
          have hb' : b < ord.length := by have := ol.out; omega
          have a1 : (a : Int) < (k : Int) := by omega
          have b1 : (b : Int) < (k : Int) := by omega
          obtain ⟨gb, rfl⟩ : ∃ gb, D' = some ⟨gb, 0, none⟩ := by
            rcases (OwnZ.of_row M3.out.two.b).form with ⟨_, h0, _⟩ | ⟨g, e, _⟩
            · omega
            · exact ⟨g, e⟩
          have c0 : w3.cell? ⟨gb, a, none⟩ = some (.int .i64 (ord[a] : Nat)) := by have := own_at (R := natR) M3.out.two.b ha 0 (u := .int .i64 (ord[a] : Nat)) rfl; simpa [natR] using this
          have c1 : w3.cell? ⟨gb, b, none⟩ = some (.int .i64 (ord[b] : Nat)) := by have := own_at (R := natR) M3.out.two.b hb' 0 (u := .int .i64 (ord[b] : Nat)) rfl; simpa [natR] using this
          have f0 : w3.frozen? ⟨gb, a, none⟩ = false := M3.out.two.b.frozenAt _
          have f1 : w3.frozen? ⟨gb, b, none⟩ = false := M3.out.two.b.frozenAt _
          have PS := Lib.hid ((List.set_set_perm ha hb').trans PM.out)
          have T1 := Lib.hid ((M3.out.two.store a ord[b]).store b ord[a])
          have g1 : w2.heap.size ≤ gb := (own_row_lo M3.out.two.b gb rfl).1
          have k1 : Kept gb (gb + 1) w3 (w3.setCell ⟨gb, a, none⟩ (.int .i64 (ord[b] : Nat))) := (Kept.refl _ _ _).setCell (p := ⟨gb, a, none⟩) (.inr ⟨Nat.le_refl _, Nat.lt_succ_self _⟩) _
          have k2 : Kept gb (gb + 1) w3 ((w3.setCell ⟨gb, a, none⟩ (.int .i64 (ord[b] : Nat))).setCell ⟨gb, b, none⟩ (.int .i64 (ord[a] : Nat))) := k1.setCell (p := ⟨gb, b, none⟩) (.inr ⟨Nat.le_refl _, Nat.lt_succ_self _⟩) _
          have M4 : Hid (MakeSt w ((w3.setCell ⟨gb, a, none⟩ (.int .i64 (ord[b] : Nat))).setCell ⟨gb, b, none⟩ (.int .i64 (ord[a] : Nat))) w2.heap.size A c xs D d dues (some ⟨gb, 0, none⟩) d' ((ord.set a ord[b]).set b ord[a])) :=
            ⟨T1.out, M3.out.dice.kept k2 (.inr (by omega)), M3.out.kept.trans2 k2 (.inr (by omega)), by have := M3.out.hz; have := k2.size; omega⟩
          clear M3 k1 k2 T1
          by_cases hab : a = b
          · subst hab
            go_wp2_with fail
            go_roundw
            case rel => exact ⟨(a : Int) - 1, _, by omega, by omega, rfl, PS, M4⟩
            case measure => simp [intOf]; omega
          · go_wp2_with fail
            go_roundw
            case rel => exact ⟨(a : Int) - 1, _, by omega, by omega, rfl, PS, M4⟩
            case measure => simp [intOf]; omega
        · have hj' : ¬ 0 < j := hj
          have RD := Lib.hid ((OwnZ.rd (R := natR) (OwnZ.of_row M.out.two.a)).2)
          have RO := Lib.hid ((OwnZ.rd (R := natR) (OwnZ.of_row M.out.two.b)).2)
          have KM := Lib.hid M.out.kept
          have zM := M.out.hz
          clear M
          have HBD : Hid (∀ o ∈ ord, o < dues.length) := fun o ho => by have := PM.out.subset ho; rw [LD.out]; simpa using this
          have HND : Hid ord.Nodup := (List.Perm.nodup_iff PM.out).2 List.nodup_range
          have hol : ord.length ≤ 20 := by rw [ol.out]; omega
          have C := heaped_any HP.out dues ord D D' d d' wr RD.out RO.out HBD.out HND.out hol
          rw [ol.out] at C
          have CC := Lib.hid C
          clear C
          go_wp2_with fail
          with_reducible refine CC.out.mono ?_
          rintro e w3 ⟨u, t, rfl, hh, ho, hk3⟩
          have HH := Lib.hid hh
          have O3 := Lib.hid ho
          have K3 := Lib.hid (KM.out.trans hk3)
          have RD3 := Lib.hid (RD.out.up hk3)
          have z3 := hk3.size
          clear hh ho hk3 RD RO KM CC
          have UN := Lib.hid (HH.out.uniq HND.out)
          have TS : Hid (t.size = k) := by show _ = _; rw [HH.out.size, ol.out]
          have EO : Hid (heapOkB t.pre = true) := heapOk_pre HH.out.ok UN.out (by rw [TS.out]; omega)
          obtain ⟨DU, du, eu, hu⟩ := O3.out
          subst eu
          clear hu
          have gl : ((t.pre.length : Int) != (k : Int)) = false := by have := TS.out; rw [HTree.pre_len]; simp; omega
          have gb : t.pre.length ≤ 20 := by rw [HTree.pre_len, TS.out]; omega
          go_wp2_with fail
          with_reducible refine (HO.out.at_ t.pre _ _ (O3.out.rdW (Nat.le_refl _))).mono ?_
          rintro e w4 ⟨rfl, hk4⟩
          have O4 := Lib.hid (O3.out.kept hk4 (.inl (Nat.le_refl _)))
          have K4 := Lib.hid (K3.out.trans hk4)
          have RD4 := Lib.hid (RD3.out.up hk4)
          have z4 := hk4.size
          clear hk4 O3 K3 RD3
          rw [EO.out]
          go_wp2_with fail
          with_reducible refine (HS.out.at_ t.pre _ _ (O4.out.rdW (by omega))).mono ?_
          rintro e w5 ⟨ul, rfl, hol5, hk5⟩
          have ES : Hid (sortedL t.pre = sortT t) := sortedL_pre HH.out.ok UN.out (by rw [TS.out]; omega)
          rw [ES.out] at hol5
          obtain ⟨S, hSS⟩ : ∃ S, S = sortT t := ⟨_, rfl⟩
          rw [← hSS] at hol5
          have ESS := Lib.hid hSS
          clear hSS
          obtain ⟨DL, dl5, el, hLz⟩ := hol5
          subst el
          have RL := Lib.hid (OwnZ.rd (R := twR) hLz).2
          have O5 := Lib.hid (O4.out.kept hk5 (.inl (Nat.le_refl _)))
          have K5 := Lib.hid (K4.out.trans hk5)
          have RD5 := Lib.hid (RD4.out.up hk5).nat
          have z5 := hk5.size
          clear hk5 O4 K4 RD4 hLz
          have SL5 : Hid (S.length = k) := by show _ = _; rw [ESS.out, sortT_len, TS.out]
          have gl2 : ((S.length : Int) != (k : Int)) = false := by have := SL5.out; simp; omega
          have gs : S.length ≤ 20 := by have := SL5.out; omega
          have SS : Hid (Sorts S) := by show Sorts S; rw [ESS.out]; exact sortT_sorts _ HH.out.ok UN.out
          have L0 : Hid (Left S 0 t) := ⟨HH.out.ok, UN.out, by rw [TS.out]; omega, by rw [ESS.out]; rfl⟩
          have AT : Hid (∀ x ∈ S, ∃ o : Nat, ∃ ho : o < dues.length, x = ⟨(dues[o] : Nat), o, 0⟩) := fun x hx => HH.out.at_ (by rw [← ESS.out]; exact hx) HBD.out
          have O5' : Hid (OwnT w5 wr.heap.size w5.heap.size (.slice DU t.pre.length du) t.pre) := O5.out.wide (Nat.le_refl _) (by omega)
          obtain ⟨zb, hzb⟩ : ∃ zb, zb = wr.heap.size := ⟨_, rfl⟩
          rw [← hzb] at O5' zM z3
          clear hzb O5
          go_wp2_with fail
          go_loopw [12, 15] (fun v i wx => ∃ (q : Nat) (tq : HTree), q ≤ k ∧ i = .int .i64 q ∧ Hid (Left S q tq) ∧ Hid (OwnT wx zb wx.heap.size v tq.pre) ∧ Hid (Kept 0 0 w5 wx)) (fun _ i _ => k - (intOf i).toNat)
          case atStart => exact ⟨0, t, Nat.zero_le _, rfl, L0, O5', Lib.hid (Kept.refl _ _ _)⟩
          case round =>
            clear L0 O5'
            obtain ⟨q, tq, hq, rfl, LQ, OQ, KQ⟩ := hrel
            have zq := KQ.out.size
            by_cases hqk : q < k
            · have i1 : (q : Int) < (k : Int) := by omega
              have hqS : q < S.length := by have := SL5.out; omega
              obtain ⟨so, sx, t', sl, lt'⟩ := LQ.out.step hqS
              have SO := Lib.hid so
              have SX := Lib.hid sx
              have SLL := Lib.hid sl
              have LT := Lib.hid lt'
              clear so sx sl lt'
              go_wp2_with fail
              with_reducible refine (HF.out.at_ tq.pre _ _ (OQ.out.rdW (Nat.le_refl _))).mono ?_
              rintro e w6 ⟨u6, rfl, ho6, hk6⟩
              rw [SLL.out] at ho6
              rw [SO.out, SX.out]
              have O6 := Lib.hid (ho6.wide (show zb ≤ _ by omega) (Nat.le_refl _))
              have K6 := Lib.hid (KQ.out.trans hk6)
              have z6 := hk6.size
              clear ho6 hk6 OQ KQ LQ
              obtain ⟨o, hod, eo⟩ := AT.out S[q] (List.getElem_mem hqS)
              obtain ⟨adl, el, _, c0, c1, c2⟩ := (RL.out.kept (Nat.le_refl _) K6.out (.inl (Nat.le_refl _))).tw hqS
              obtain ⟨add, ed, _, dd0⟩ := (RD5.out.kept (Nat.le_refl _) K6.out (.inl (Nat.le_refl _))).at_ hod
              rw [eo] at c0 c1 c2 ⊢
              have kv := Kept.alloc0 w6 (.cells #[.int .i64 (dues[o] : Nat), .int .i64 (o : Nat), .int .i64 0] 35)
              have bx := Blk.new w6 35 #[.int .i64 (dues[o] : Nat), .int .i64 (o : Nat), .int .i64 0]
              obtain ⟨V, hV⟩ : ∃ V, V = w6.alloc (.cells #[.int .i64 (dues[o] : Nat), .int .i64 (o : Nat), .int .i64 0] 35) := ⟨_, rfl⟩
              rw [← hV] at kv bx
              have v0 := cell_kept kv c0
              have v1 := cell_kept kv c1
              have v2 := cell_kept kv c2
              have vd : V.cell? (add.add o) = some (.int .i64 (dues[o] : Nat)) := cell_kept kv dd0
              have x0 := bx.cell 0
              have x1 := bx.cell 1
              have x2 := bx.cell 2
              have i2 : (o : Int) < (dues.length : Int) := by omega
              have i3 : (q : Int) < (S.length : Int) := by omega
              have O7 := Lib.hid ((O6.out.kept kv (.inl (Nat.le_refl _))).wide (Nat.le_refl _) kv.size)
              have K7 := Lib.hid (K6.out.trans kv)
              have EO' := Lib.hid eo
              have KV := Lib.hid kv
              clear c0 c1 c2 dd0 kv eo O6 K6 bx
              subst ed
              subst el
              go_wp2_with fail
              rw [← hV]
              clear hV
              simp only [List.getElem?_toArray, List.getElem?_cons_zero, List.getElem?_cons_succ] at x0 x1 x2
              simp only [List.append]
              have r3 := cell_regrown vd
              have r4 := cell_regrown x0
              have r5 := cell_regrown x1
              have r6 := cell_regrown x2
              clear HP HO HT gl gb gl2 gs RD5 AT SX SO SLL ES EO ESS vd x0 x1 x2
              cases q with
              | zero =>
                rw [show (0 : Nat) * 3 = 0 from rfl] at v0 v1 v2
                have e0 : adl.add 0 = adl := rfl
                rw [e0] at v0 v1 v2
                have r0 := cell_regrown v0
                have r1 := cell_regrown v1
                have r2 := cell_regrown v2
                clear e0 v0 v1 v2 EO'
                generalize dues[o] = dv at *
                refine wp_region_quiet_below (by kernel_rfl) (by kernel_rfl) ?_
                repeat (first | go_big_quiet_step (fail) | quiet_step (fail))
                refine wpQuiet_nil ?_
                intro _ hw'
                obtain ⟨⟨dq, osq⟩, hw''⟩ := hw'
                subst hw''
                clear r0 r1 r2 r3 r4 r5 r6
                go_wp2_with fail
                go_roundw
                case rel => exact ⟨1, t', by omega, rfl, LT, Lib.hid ((O7.out.kept (Kept.regrown V dq osq) (.inl (Nat.le_refl _))).wide (Nat.le_refl _) (Kept.regrown V dq osq).size), Lib.hid (K7.out.trans (Kept.regrown V dq osq))⟩
                case measure => simp [intOf]; omega
              | succ m =>
                have hmS : m < S.length := by omega
                obtain ⟨ad2, e2, _, p0, p1, p2⟩ := (RL.out.kept (Nat.le_refl _) K7.out (.inl (Nat.le_refl _))).tw hmS
                injection e2 with e2
                subst e2
                have hah := List.pairwise_iff_getElem.1 SS.out m (m + 1) hmS hqS (by omega)
                rw [EO'.out, ahead_iff] at hah
                obtain ⟨sm, hsm⟩ : ∃ sm, S[m] = sm := ⟨_, rfl⟩
                rw [hsm] at hah p0 p1 p2
                have r0 := cell_regrown v0
                have r1 := cell_regrown v1
                have r2 := cell_regrown v2
                have r7 := cell_regrown p0
                have r8 := cell_regrown p1
                have r9 := cell_regrown p2
                clear v0 v1 v2 p0 p1 p2 EO' hsm RL
                generalize dues[o] = dv at *
                have hah' : sm.due < (dv : Int) ∨ sm.due = (dv : Int) ∧ sm.seq < (o : Int) := hah
                have t1 : decide ((dv : Int) < sm.due) = false := by simp; omega
                have wm : IntKind.i64.wrap (((m + 1 : Nat) : Int) - 1) = (m : Int) := IntWalk.i64_in _ (by omega) |>.trans (by omega)
                have wm' : IntKind.i64.wrap ((m : Int) + 1 - 1) = (m : Int) := IntWalk.i64_in _ (by omega) |>.trans (by omega)
                have t2 : decide ((0 : Int) < ((m + 1 : Nat) : Int)) = true := decide_eq_true (by omega)
                have t2' : decide ((0 : Int) < (m : Int) + 1) = true := decide_eq_true (by omega)
                have i4 : (m : Int) < (S.length : Int) := by omega
                have i5 : (m : Int) + 1 < (S.length : Int) := by omega
                clear hah SS
                cases t3 : ((dv : Int) == sm.due)
                · clear hah'
                  refine wp_region_quiet_below (by kernel_rfl) (by kernel_rfl) ?_
                  repeat (first | go_big_quiet_step (fail) | quiet_step (fail))
                  refine wpQuiet_nil ?_
                  intro _ hw'
                  obtain ⟨⟨dq, osq⟩, hw''⟩ := hw'
                  subst hw''
                  clear r0 r1 r2 r3 r4 r5 r6 r7 r8 r9 t1 t2 t2' t3 wm wm'
                  go_wp2_with fail
                  go_roundw
                  case rel => exact ⟨m + 1 + 1, t', by omega, by go_num, LT, Lib.hid ((O7.out.kept (Kept.regrown V dq osq) (.inl (Nat.le_refl _))).wide (Nat.le_refl _) (Kept.regrown V dq osq).size), Lib.hid (K7.out.trans (Kept.regrown V dq osq))⟩
                  case measure => simp [intOf]; omega
                · have t4 : decide ((o : Int) ≤ sm.seq) = false := by simp at t3; simp; omega
                  clear hah'
                  refine wp_region_quiet_below (by kernel_rfl) (by kernel_rfl) ?_
                  repeat (first | go_big_quiet_step (fail) | quiet_step (fail))
                  refine wpQuiet_nil ?_
                  intro _ hw'
                  obtain ⟨⟨dq, osq⟩, hw''⟩ := hw'
                  subst hw''
                  clear r0 r1 r2 r3 r4 r5 r6 r7 r8 r9 t1 t2 t2' t3 t4 wm wm'
                  go_wp2_with fail
                  go_roundw
                  case rel => exact ⟨m + 1 + 1, t', by omega, by go_num, LT, Lib.hid ((O7.out.kept (Kept.regrown V dq osq) (.inl (Nat.le_refl _))).wide (Nat.le_refl _) (Kept.regrown V dq osq).size), Lib.hid (K7.out.trans (Kept.regrown V dq osq))⟩
                  case measure => simp [intOf]; omega
            · have i1 : ¬ (q : Int) < (k : Int) := by omega
              have en := LQ.out.end_ (by have := SL5.out; omega)
              subst en
              have sn : Hid (shiftOk (HTree.nil).pre = false) := rfl
              go_wp2_with fail
              with_reducible refine (HF.out.at_ (HTree.nil).pre _ _ (OQ.out.rdW (Nat.le_refl _))).mono ?_
              rintro e w6 ⟨u6, rfl, -, hk6⟩
              rw [sn.out]
              have K6 := Lib.hid ((K5.out.trans KQ.out).trans hk6)
              clear hk6 OQ KQ LQ
              go_wp2
              go_ret
              exact ⟨rfl, K6.out.alloc _⟩
end Go.Proofs.Ytggggdloppnopaa
