/- The program's sorted list of a heap: the elements that are ahead first, in new memory. No condition beyond that the slice can be read. -/
import Derived.Test.YtggggdloppnopaaPk
namespace Go.Proofs.Ytggggdloppnopaa
open Go.RowKit Go.Sort

theorem adr_nil : PT.nil.adr = none := rfl
theorem adr_node (g : Nat) (d s : Int) (l r : PT) : (PT.node g d s l r).adr = some ⟨g, 0, none⟩ := rfl
theorem Lay.blk {w : World} : ∀ {u : PT} {par : Value}, Lay w par u → ∀ g ∈ u.blocks, ∃ cs, Blk w g 81 cs
  | .nil, _, _, g, hg => by simp [PT.blocks] at hg
  | .node g d s l r, par, h, x, hx => by
    simp only [PT.blocks, List.mem_cons, List.mem_append] at hx
    rcases hx with rfl | hx | hx
    · exact ⟨_, h.1⟩
    · exact h.2.1.blk x hx
    · exact h.2.2.blk x hx
theorem Lay.grown {w w' : World} {row : Option Nat} (hb : w.grownBy w' row) : ∀ {u : PT} {par : Value}, Lay w par u → (∀ g ∈ u.blocks, row ≠ some g) → Lay w' par u
  | .nil, _, _, _ => trivial
  | .node g d s l r, par, h, hr => ⟨blk_grown h.1 hb (hr g (by simp [PT.blocks])), h.2.1.grown hb (fun x hx => hr x (by simp [PT.blocks, hx])), h.2.2.grown hb (fun x hx => hr x (by simp [PT.blocks, hx]))⟩
theorem row_turned {w w' : World} {S : List Nat} {lo size n : Nat} {v : Value} {xs : List Value} (h : w.ownsRow lo 35 size v n xs) (hk : Turned S w w') (hs : ∀ g ∈ S, ∃ cs, Blk w g 81 cs) : w'.ownsRow lo 35 size v n xs := by
  refine ⟨h.1, ?_⟩
  rcases h.2 with hn | ⟨g1, cap, cur, rfl, hl, hh, rest⟩
  · exact .inl hn
  · refine .inr ⟨g1, cap, cur, rfl, hl, (hk.block g1 ?_).trans hh, rest⟩
    intro hx
    obtain ⟨cs, hb⟩ := hs g1 hx
    unfold Blk at hb
    rw [hh] at hb
    injection hb with hb
    injection hb with _ ht
    exact absurd ht (by decide)
theorem row_lay {w : World} {lo size n : Nat} {v : Value} {xs : List Value} {u : PT} {par : Value} (h : w.ownsRow lo 35 size v n xs) (hu : Lay w par u) : ∀ g ∈ u.blocks, v.ownBlock ≠ some g := by
  intro g hg
  obtain ⟨cs, hb⟩ := hu.blk g hg
  exact row_ne h hb (by decide)

/-- Where the sorting stands: ls is out, u remains. -/
structure SortSt (S : List Tw) (w wr : World) (ls : List Tw) (u : PT) : Prop where
  eq : ls ++ sortT u.tree = S
  lay : Lay wr (.pointer none) u
  nd : u.blocks.Nodup
  new : ∀ g ∈ u.blocks, w.heap.size ≤ g
  ok : u.tree.ok = true
  un : uniq u.tree
  le : ls.length + u.size ≤ 64
  kept : Kept 0 0 w wr
theorem SortSt.step {S : List Tw} {w wr w' : World} {ls : List Tw} {g : Nat} {d s : Int} {l r : PT} (h : SortSt S w wr ls (.node g d s l r)) (hl : Lay w' (.pointer none) (mergeP l r)) (hk : Kept 0 0 w w') : SortSt S w w' (ls ++ [⟨d, s, 0⟩]) (mergeP l r) := by
  obtain ⟨u1, u2, u3, _, _⟩ := uniq_node h.un
  obtain ⟨a1, a2, a3, a4, a5⟩ := ok_node h.ok
  have e := mergeP_tree l r u3
  have hn := h.nd
  simp only [PT.blocks, List.nodup_cons] at hn
  have hle := h.le
  simp only [PT.size] at hle
  refine ⟨?_, hl, (List.Perm.nodup_iff (mergeP_blocks l r)).2 hn.2, ?_, ?_, ?_, ?_, hk⟩
  · rw [e, ← h.eq]
    show _ = ls ++ sortT (.node d s l.tree r.tree)
    rw [sortT_node]
    simp
  · intro x hx
    exact h.new x (by simp only [PT.blocks, List.mem_cons]; exact .inr ((mergeP_blocks l r).mem_iff.1 hx))
  · rw [e]; exact merge_ok _ _ a4 a5 u3
  · rw [e]; exact uniq_merge u1 u2 u3
  · rw [mergeP_size]; simp; omega

set_option maxHeartbeats 3200000 in
theorem implSorted : DoesT 18 sortedL := by
  intro xs v w h
  have CH := Lib.hid (heapOf_any xs v w h)
  have HT := Lib.hid twSlice
  obtain ⟨A, c, rfl, h⟩ := h
  clear h
  go_enter Try.func18, Try.ntmps18
  go_wp2_with fail
  with_reducible refine CH.out.mono ?_
  rintro e w1 ⟨k1, p, rfl, h1⟩
  have K1 := Lib.hid k1
  have H1 := Lib.hid h1
  have z1 := k1.size
  clear k1 h1 CH
  cases ho : heapOkB xs
  · have E2 : Hid (sortedL xs = []) := by show _ = _; simp [sortedL, ho]
    clear ho
    go_wp2_with fail
    go_ret
    exact ⟨_, rfl, by rw [E2.out]; exact OwnT.nil _ _ _, K1.out⟩
  · obtain ⟨t, rfl, L⟩ := H1.out ho
    have S1 : Hid (SortSt (sortedL xs) w w1 [] t) := ⟨by rw [sortedL, if_pos ho, L.tree]; rfl, L.lay, L.nd, L.new, L.ok, L.uniq ho, by have := L.small ho; simpa using this, K1.out⟩
    clear L ho H1
    obtain ⟨S, hS⟩ : ∃ S, S = sortedL xs := ⟨_, rfl⟩
    rw [← hS] at S1
    have HS := Lib.hid hS
    clear hS
    go_wp2_with fail
    go_loopw [3, 5] (fun v3 v5 wr => ∃ (u : PT) (ls : List Tw) (D : Option Addr) (d : Nat), v3 = .pointer u.adr ∧ v5 = .slice D ls.length d ∧ Hid (wr.ownsRow w.heap.size 35 twR.k (.slice D ls.length d) ls.length (twR.flat ls)) ∧ Hid (SortSt S w wr ls u)) (fun _ v5 _ => 65 - slLen v5)
    case atStart => exact ⟨t, [], none, 0, rfl, rfl, Lib.hid ⟨rfl, .inl ⟨rfl, rfl⟩⟩, S1⟩
    case round =>
      clear S1
      obtain ⟨u, ls, D, dd, rfl, rfl, HO, St⟩ := hrel
      cases u with
      | nil =>
        have E : Hid (ls = S) := by have := St.out.eq; show _ = _; simpa [PT.tree, sortT_nil] using this
        have KW := Lib.hid St.out.kept
        simp only [adr_nil]
        go_wp2_with fail
        go_ret
        exact ⟨.slice D ls.length dd, rfl, by rw [← HS.out, ← E.out]; exact ⟨D, dd, rfl, OwnZ.of_row HO.out⟩, KW.out⟩
      | node g d s l r =>
        have CA := Lib.hid (aloneP_any g d s _ _ _ wr St.out.lay.1)
        have zs : ls.length ≤ 64 := by have := St.out.le; omega
        have zu : ls.length + 1 ≤ 64 := by have := St.out.le; simp only [PT.size] at this; omega
        have zn : (PT.node g d s l r).size ≤ 1000 := by have := St.out.le; omega
        simp only [adr_node]
        go_wp2_with fail
        with_reducible refine CA.out.mono ?_
        rintro e w2 ⟨rfl, k2⟩
        have K2 := Lib.hid k2
        clear k2 CA
        obtain ⟨V, hV⟩ : ∃ V, V = w2.alloc (.cells #[.int .i64 d, .int .i64 s, .int .i64 0] 35) := ⟨_, rfl⟩
        have KV : Hid (Kept 0 0 wr V) := by show Kept _ _ _ _; rw [hV]; exact K2.out.alloc _
        have RV : Hid (RdR twR V V.heap.size (some ⟨w2.heap.size, 0, none⟩) [⟨d, s, 0⟩]) := by
          show RdR _ _ _ _ _
          rw [hV]
          exact (OwnZ.rd (R := twR) (OwnZ.of_row (own_lit3 w2 ⟨d, s, 0⟩))).2
        have OV := Lib.hid (row_kept HO.out KV.out)
        have LV := Lib.hid (St.out.lay.kept KV.out (.inl (Nat.le_refl _)))
        have zV : w.heap.size ≤ V.heap.size := Nat.le_trans St.out.kept.size KV.out.size
        rw [hV] at RV OV zV
        go_wp2_with (at_builtin; refine wpList_app (R := twR) rfl (.tmp 15) (.tmp 18) rfl HT.out w.heap.size D dd ls rfl OV.out _ (some ⟨w2.heap.size, 0, none⟩) 1 [⟨d, s, 0⟩] rfl RV.out (by simp [maxLen]; omega) (by simp; omega) zV ?_; intro D3 d3 w3 hown hgrow hat)
        rw [← hV] at hgrow OV
        have L3 := Lib.hid (LV.out.grown hgrow (by have := row_lay OV.out LV.out; intro x hx; have := this x hx; rwa [rowAt_eq] at this))
        have K3 := Lib.hid ((St.out.kept.trans KV.out).app hgrow (fun x hx => (own_row_lo HO.out x hx).1))
        have O3 := Lib.hid hown
        have CR := Lib.hid (removedP_any [] g d s l r w3 L3.out St.out.nd zn)
        have NW := Lib.hid St.out.new
        have QS := Lib.hid (fun w' (hl : Lay w' (.pointer none) (mergeP l r)) hk => St.out.step hl hk)
        clear hown hgrow hat hV LV RV OV KV K2 zV St HO
        with_reducible refine CR.out.mono ?_
        rintro e w4 ⟨rfl, l4, t4⟩
        have K4 := Lib.hid (K3.out.turned t4 (fun x hx => NW.out x hx))
        have O4 := Lib.hid (row_turned O3.out t4 (fun x hx => L3.out.blk x hx))
        have S4 := Lib.hid (QS.out w4 l4 K4.out)
        clear l4 t4 CR QS NW L3 K3 O3
        go_wp2_with fail
        go_roundw
        case rel => exact ⟨mergeP l r, ls ++ [⟨d, s, 0⟩], D3, d3, rfl, by simp, O4, S4⟩
        case measure => simp [slLen]; omega
end Go.Proofs.Ytggggdloppnopaa
