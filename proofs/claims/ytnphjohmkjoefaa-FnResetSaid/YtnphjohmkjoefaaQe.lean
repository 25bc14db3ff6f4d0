/- How the program shows all timers; no condition beyond that the timers lie in memory. -/
import Derived.Test.YtnphjohmkjoefaaQd
namespace Go.Proofs.Ytnphjohmkjoefaa
open Go.RowKit Go.Sort

section
variable {w w' : World} {lo hi : Nat} {e' : TypeId}
theorem row_beside {e size n : Nat} {v : Value} {xs : List Value} (h : w.ownsRow lo e size v n xs) (k : Beside e' w w') (hne : e' ≠ e) : w'.ownsRow lo e size v n xs := by
  refine ⟨h.1, ?_⟩
  rcases h.2 with hn | ⟨g, cap, cur, hv, hb, hg, rest⟩
  · exact .inl hn
  · exact .inr ⟨g, cap, cur, hv, hb, k g e cur hne hg, rest⟩
theorem OwnT.beside {v : Value} {xs : List Tw} (h : OwnT w lo hi v xs) (k : Beside e' w w') (hne : e' ≠ 77) : OwnT w' lo hi v xs := by
  obtain ⟨D, d, e, h⟩ := h; exact ⟨D, d, e, row_beside h.1 k hne, h.2⟩
theorem OwnTm.beside {v : Value} {xs : List Tm} (h : OwnTm w lo hi v xs) (k : Beside e' w w') (hne : e' ≠ 50) : OwnTm w' lo hi v xs := by
  obtain ⟨D, d, e, h⟩ := h; exact ⟨D, d, e, row_beside h.1 k hne, h.2⟩
end
/-- Where the showing stands. -/
structure ShowSt (V wr : World) (gb : Nat) (hp : List Tw) (xs : List Tm) (next : Int) (u : Value) (D : Option Addr) (d : Nat) : Prop where
  blk : Blk wr gb 27 #[u, .slice D xs.length d, .int .i64 next]
  row : wr.ownsRow V.heap.size 50 tmR.k (.slice D xs.length d) xs.length (tmR.flat xs)
  own : OwnT wr V.heap.size wr.heap.size u hp
  kept : Kept 0 0 V wr
  new : V.heap.size ≤ gb
theorem ShowSt.push {V wr Z w3 : World} {gb : Nat} {hp : List Tw} {xs : List Tm} {next : Int} {u : Value} {D D2 : Option Addr} {d d2 : Nat} (h : ShowSt V wr gb hp xs next u D d) (x : Tm) (kZ : Kept 0 0 wr Z) (hgrow : Z.grownBy w3 (rowAt D))
    (hown : w3.ownsRow V.heap.size 50 tmR.k (.slice D2 (xs ++ [x]).length d2) (xs ++ [x]).length (tmR.flat (xs ++ [x]))) : ShowSt V (w3.setCell ⟨gb, 1, none⟩ (.slice D2 (xs ++ [x]).length d2)) gb hp (xs ++ [x]) next u D2 d2 := by
  have rz := row_kept h.row kZ
  have s3 : Beside 50 wr w3 := (Beside.of_kept kZ).trans (Beside.app rz hgrow)
  have b3 := s3 _ _ _ (by decide) h.blk
  have s4 := Beside.set_ b3 1 (.slice D2 (xs ++ [x]).length d2)
  have z3 : wr.heap.size ≤ w3.heap.size := Nat.le_trans kZ.size hgrow.size
  refine ⟨?_, row_beside hown s4 (by decide), ?_, ?_, h.new⟩
  · have := b3.set_ 1 (.slice D2 (xs ++ [x]).length d2)
    simpa using this
  · exact ((h.own.beside s3 (by decide)).beside s4 (by decide)).wide (Nat.le_refl _) (by simpa using z3)
  · exact ((h.kept.trans kZ).app hgrow (fun g hg => (own_row_lo rz g hg).1)).setCell (.inl h.new) _
/-- Behind the first statement. -/
def FirstSt (V : World) (hp : List Tw) (next : Int) (p : Value) (wx : World) : Prop := ∃ gb u, p = toBlk gb ∧ ShowSt V wx gb hp [] next u none 0
theorem FirstSt.new_ {V w1 : World} {hp : List Tw} {next : Int} {u : Value} (h : OwnT w1 V.heap.size w1.heap.size u hp) (k : Kept 0 0 V w1) : FirstSt V hp next (toBlk w1.heap.size) (w1.alloc (.cells #[u, .slice none 0 0, .int .i64 next] 27)) :=
  ⟨w1.heap.size, u, rfl, Blk.new _ _ _, ⟨rfl, .inl ⟨rfl, rfl⟩⟩, (h.kept (Kept.alloc0 _ _) (.inl (Nat.le_refl _))).wide (Nat.le_refl _) (Kept.alloc0 w1 _).size, k.alloc _, k.size⟩
theorem FirstSt.set_ {V w1 : World} {hp : List Tw} {next : Int} {u : Value} {g : Nat} (hb : Blk w1 g 27 #[.slice none 0 0, .slice none 0 0, .int .i64 0]) (hg : V.heap.size ≤ g) (h : OwnT w1 V.heap.size w1.heap.size u hp) (k : Kept 0 0 V w1) : FirstSt V hp next (toBlk g) (((w1.setCell ⟨g, 0, none⟩ u).setCell ⟨g, 1, none⟩ (.slice none 0 0)).setCell ⟨g, 2, none⟩ (.int .i64 next)) := by
  refine ⟨g, u, rfl, blk3 hb _ _ _, ⟨rfl, .inl ⟨rfl, rfl⟩⟩, ?_, k.trans2 (kept3 w1 g _ _ _) (.inr hg), hg⟩
  have s1 := Beside.set_ hb 0 u
  have b1 := hb.set_ 0 u
  have s2 := Beside.set_ b1 1 (.slice none 0 0)
  have s3 := Beside.set_ (b1.set_ 1 (.slice none 0 0)) 2 (.int .i64 next)
  have := ((h.beside s1 (by decide)).beside s2 (by decide)).beside s3 (by decide)
  simpa using this

set_option maxHeartbeats 6400000 in
set_option maxRecDepth 100000 in
theorem shownA_any (w : World) (lo b d : Nat) (par : Value) (t : PT) (D : Option Addr) (zs : List Tr) (next : Int) (h : Alm w lo b par t D d zs next) (hn : zs.length ≤ 1000) (hs : t.size ≤ 1000) :
    Calls Try.prog 35 #[toBlk b] w fun e w' => ∃ u, e = .returned u ∧ OwnM w' w.heap.size w'.heap.size u ⟨t.tree.pre, zs.map Tr.x, next⟩ ∧ Kept 0 0 w w' := by
  have H := Lib.hid h
  clear h
  obtain ⟨V, hV⟩ : ∃ V, V = w.alloc (.cells #[.slice none 0 0, .slice none 0 0, .int .i64 0] 27) := ⟨_, rfl⟩
  have KV : Hid (Kept 0 0 w V) := by show Kept _ _ _ _; rw [hV]; exact Kept.alloc0 _ _
  have BV : Hid (Blk V w.heap.size 27 #[.slice none 0 0, .slice none 0 0, .int .i64 0]) := by show Blk _ _ _ _; rw [hV]; exact Blk.new _ _ _
  have HA := Lib.hid (H.out.kept KV.out)
  have zV : V.heap.size = w.heap.size + 1 := by rw [hV]; simp
  have HV := Lib.hid hV
  have BB := Lib.hid HA.out.blk
  have LL := Lib.hid HA.out.lay
  have v0 := bx0 BB.out
  have v2 := bx2 BB.out
  have nb : b < V.heap.size := BB.out.lt
  have ZV := Lib.hid zV
  have HT := Lib.hid tmSlice
  clear hV zV
  go_enter Try.func35, Try.ntmps35
  go_upto_region 1 with fail
  rw [← HV.out]
  go_cut [3] (fun p wx => FirstSt V t.tree.pre next p wx)
  case first =>
    go_region_held3 (fun w' => w'.cell? ⟨b, 0, none⟩ = some t.ptr ∧ w'.cell? ⟨b, 2, none⟩ = some (.int .i64 next))
      (first | with_reducible exact ⟨bx0 BB.out.drew, bx2 BB.out.drew⟩ | with_reducible exact ⟨bx0 (BB.out.alloc (.cells #[.slice none 0 0, .slice none 0 0, .int .i64 0] 27)).drew, bx2 (BB.out.alloc (.cells #[.slice none 0 0, .slice none 0 0, .int .i64 0] 27)).drew⟩ | with_reducible exact ⟨bx0 B1, bx2 B1⟩ | with_reducible exact ⟨bx0 (B1.alloc (.cells #[.slice none 0 0, .slice none 0 0, .int .i64 0] 27)), bx2 (B1.alloc (.cells #[.slice none 0 0, .slice none 0 0, .int .i64 0] 27))⟩ | with_reducible exact ⟨bx0 (B1.alloc (.cells #[.slice D1 t.tree.pre.length d1, .slice none 0 0, .int .i64 next] 27)), bx2 (B1.alloc (.cells #[.slice D1 t.tree.pre.length d1, .slice none 0 0, .int .i64 next] 27))⟩ | with_reducible exact ⟨bx0 (((B1.far (by first | omega | (simp; done) | (simp; omega)) _).far (by first | omega | (simp; done) | (simp; omega)) _).far (by first | omega | (simp; done) | (simp; omega)) _), bx2 (((B1.far (by first | omega | (simp; done) | (simp; omega)) _).far (by first | omega | (simp; done) | (simp; omega)) _).far (by first | omega | (simp; done) | (simp; omega)) _)⟩)
      (first
        | (go_at_call 51; ((with_reducible refine (listOf_any t par V.drew hs (LL.out.kept (Kept.refl 0 0 V).drew (.inl (Nat.le_refl _)))).mono ?_)); rintro e w1 ⟨_, rfl, ⟨D1, d1, rfl, ho⟩, hk⟩; have k1 : Kept 0 0 V w1 := (Kept.refl 0 0 V).drew.trans hk; have z1 := k1.size; have B1 := BB.out.kept k1 (.inl (Nat.le_refl _)); have O1 : OwnT w1 V.heap.size w1.heap.size (.slice D1 t.tree.pre.length d1) t.tree.pre := ⟨D1, d1, rfl, ho⟩; have y1 := B1.lt; clear hk ho)
        | (go_at_call 51; ((with_reducible refine (listOf_any t par (V.alloc (.cells #[.slice none 0 0, .slice none 0 0, .int .i64 0] 27)).drew hs (LL.out.kept (Kept.alloc0 V (.cells #[.slice none 0 0, .slice none 0 0, .int .i64 0] 27)).drew (.inl (Nat.le_refl _)))).mono ?_)); rintro e w1 ⟨_, rfl, ⟨D1, d1, rfl, ho⟩, hk⟩; have k1 : Kept 0 0 V w1 := (Kept.alloc0 V (.cells #[.slice none 0 0, .slice none 0 0, .int .i64 0] 27)).drew.trans hk; have X1 : Blk w1 V.heap.size 27 #[.slice none 0 0, .slice none 0 0, .int .i64 0] := (Blk.new V 27 _).drew.kept hk (.inl (Nat.le_refl _)); have B1 := BB.out.kept k1 (.inl (Nat.le_refl _)); have O1 : OwnT w1 V.heap.size w1.heap.size (.slice D1 t.tree.pre.length d1) t.tree.pre := OwnT.wide ⟨D1, d1, rfl, ho⟩ (by first | omega | (simp; done) | (simp; omega)) (Nat.le_refl _); have q0 := bx0 X1; have q1 := bx1 X1; have q2 := bx2 X1; have f0 := X1.frozen 0; have f1 := X1.frozen 1; have f2 := X1.frozen 2; clear hk ho))
    all_goals (go_wp2_with fail; go_meet)
    all_goals first
      | exact FirstSt.set_ X1 (Nat.le_refl _) O1 k1
      | exact FirstSt.new_ O1 k1
  case rest =>
    obtain ⟨wx, rfl⟩ : ∃ wx : World, wx = wc := ⟨_, rfl⟩
    obtain ⟨gb, u, rfl, S0⟩ := hcut
    have ST := Lib.hid S0
    have AX := Lib.hid (HA.out.kept S0.kept)
    clear S0 v0 v2
    have v1 := bx1 AX.out.blk
    go_wp2_with fail
    clear v1
    go_loopw [21] (fun i wr => ∃ (k : Nat) (D' : Option Addr) (d' : Nat), k ≤ zs.length ∧ i = .int .i64 k ∧ Hid (ShowSt V wr gb t.tree.pre ((zs.map Tr.x).take k) next u D' d')) (fun i _ => zs.length - (intOf i).toNat)
    case atStart => exact ⟨0, none, 0, Nat.zero_le _, rfl, ST⟩
    case round =>
      clear ST AX
      obtain ⟨k, D', d', hk, rfl, St⟩ := hrel
      by_cases hlt : k < zs.length
      · have i1 : (k : Int) < (zs.length : Int) := by omega
        have AW := Lib.hid (HA.out.kept St.out.kept)
        obtain ⟨ad, e1, c1⟩ := AW.out.at_ hlt
        subst e1
        obtain ⟨xs, hxs⟩ : ∃ xs, xs = (zs.map Tr.x).take k := ⟨_, rfl⟩
        have XL : Hid (xs.length = k) := by show _ = _; rw [hxs]; simp; omega
        have x64 : xs.length ≤ 1000 := by have := XL.out; omega
        have XE : Hid ((zs.map Tr.x).take (k + 1) = xs ++ [zs[k].x]) := by show _ = _; rw [hxs, List.take_succ_eq_append_getElem (by simpa using hlt)]; simp
        rw [← hxs] at St
        have CT := Lib.hid (fun (W : World) (hW : Kept 0 0 wr W) => shownT_any W zs[k] ((AW.out.get hlt).kept hW (Nat.le_refl _)))
        have bs := St.out.blk
        have a1 := bx1 bs
        have fa1 := bs.frozen 1
        have ng : gb < wr.heap.size := bs.lt
        have zr : V.heap.size ≤ wr.heap.size := St.out.kept.size
        clear hxs
        go_upto_region 5 with fail
        clear c1
        go_region_law (first
            | (go_simp; go_at_call 52; ((with_reducible refine (CT.out wr.drew (Kept.refl 0 0 wr).drew).mono ?_)); rintro e w1 ⟨rfl, hk1⟩; have k1 : Kept 0 0 wr w1 := (Kept.refl 0 0 wr).drew.trans hk1; have kz : Kept 0 0 wr (w1.alloc (.cells #[.int .i64 zs[k].x.seq, .int .i64 zs[k].x.due, .int .i64 zs[k].x.what, .int .i64 zs[k].x.whom, .bool zs[k].x.armed] 50)) := k1.alloc _; have z1 : V.heap.size ≤ w1.heap.size := Nat.le_trans zr k1.size; have bs1 := bs.kept k1 (.inl (Nat.le_refl _)); have a11 := bx1 bs1; have ng1 : gb < w1.heap.size := bs1.lt; clear hk1)
            | (have _z := kz; refine step_app (R := tmR) rfl (.tmp 26) (.tmp 29) (by rfl) HT.out V.heap.size D' d' xs (by rfl) (by exact row_kept St.out.row kz) (w1.heap.size + 1) (some ⟨w1.heap.size, 0, none⟩) 1 [zs[k].x] (by rfl) (by exact (by have h0 := (OwnZ.rd (R := tmR) (OwnZ.of_row (own_lit5 w1 zs[k].x))).2; simpa using h0)) (by simp [maxLen]; omega) (by simp; omega) (by simp; omega) ?_; intro D2 d2 w3 hown hgrow hat; have hgz : (w1.alloc (.cells #[.int .i64 zs[k].x.seq, .int .i64 zs[k].x.due, .int .i64 zs[k].x.what, .int .i64 zs[k].x.whom, .bool zs[k].x.armed] 50)).grownBy w3 (rowAt D') := hgrow; have s3 : Beside 50 (w1.alloc (.cells #[.int .i64 zs[k].x.seq, .int .i64 zs[k].x.due, .int .i64 zs[k].x.what, .int .i64 zs[k].x.whom, .bool zs[k].x.armed] 50)) w3 := Beside.app (row_kept St.out.row kz) hgz; have A3 := s3 _ _ _ (by decide) (bs1.alloc (.cells #[.int .i64 zs[k].x.seq, .int .i64 zs[k].x.due, .int .i64 zs[k].x.what, .int .i64 zs[k].x.whom, .bool zs[k].x.armed] 50)); have a13 := bx1 A3; have f13 := A3.frozen 1; have hown3 : w3.ownsRow V.heap.size 50 tmR.k (.slice D2 (xs ++ [zs[k].x]).length d2) (xs ++ [zs[k].x]).length (tmR.flat (xs ++ [zs[k].x])) := hown; clear hown hgrow hat))
        all_goals go_wp2_with fail
        all_goals (have S2 := Lib.hid (St.out.push zs[k].x kz hgz hown3))
        all_goals (rw [← XE.out] at S2)
        all_goals (have LE : Hid (((zs.map Tr.x).take (k + 1)).length = xs.length + 1) := by show _ = _; rw [XE.out]; simp)
        all_goals (simp only [LE.out] at S2)
        all_goals go_roundw
        all_goals first
          | (simp [intOf]; omega)
          | exact ⟨k + 1, D2, d2, by omega, by go_num, S2⟩
      · have hkk : k = zs.length := by omega
        have XE : Hid ((zs.map Tr.x).take k = zs.map Tr.x) := by show _ = _; rw [List.take_of_length_le (by simp; omega)]
        rw [XE.out] at St
        obtain ⟨xs, hxs⟩ : ∃ xs, xs = zs.map Tr.x := ⟨_, rfl⟩
        rw [← hxs] at St
        obtain ⟨D1, d1, e1, o1⟩ := St.out.own
        subst e1
        clear o1
        have bs := St.out.blk
        have a0 := bx0 bs
        have a1 := bx1 bs
        have a2 := bx2 bs
        have BR := BV.out.kept St.out.kept (.inl (Nat.le_refl _))
        have r0 := bx0 BR
        have r1 := bx1 BR
        have r2 := bx2 BR
        have f0 := BR.frozen 0
        have f1 := BR.frozen 1
        have f2 := BR.frozen 2
        have BF := blk3 BR (.slice D1 t.tree.pre.length d1) (.slice D' xs.length d') (.int .i64 next)
        have F0 := bx0 BF
        have F1 := bx1 BF
        have F2 := bx2 BF
        have KF := kept3 wr w.heap.size (.slice D1 t.tree.pre.length d1) (.slice D' xs.length d') (.int .i64 next)
        have FF := Lib.hid (And.intro F0 (And.intro F1 F2))
        have KK := Lib.hid KF
        have HX := Lib.hid hxs
        clear F0 F1 F2 BF KF hxs bs BR
        go_wp2_with fail
        obtain ⟨F0, F1, F2⟩ := FF.out
        have zk := KK.out.size
        have zv := ZV.out
        refine bodyPost_ret (v := .agg #[.slice D1 t.tree.pre.length d1, .slice D' xs.length d', .int .i64 next]) (by simp [results, Try.results35, go_sem, F0, F1, F2]) rfl ⟨_, rfl, ⟨.slice D1 t.tree.pre.length d1, .slice D' xs.length d', rfl, ?_, ?_⟩, ?_⟩
        · exact (St.out.own.kept KK.out (.inr (.inr (by omega)))).wide (by omega) zk
        · rw [← HX.out]
          exact ⟨D', d', rfl, ((OwnZ.of_row St.out.row).kept KK.out (.inr (.inr (by omega)))).wide (by omega) zk⟩
        · exact (KV.out.trans St.out.kept).trans2 KK.out (.inr (Nat.le_refl _))
end Go.Proofs.Ytnphjohmkjoefaa
