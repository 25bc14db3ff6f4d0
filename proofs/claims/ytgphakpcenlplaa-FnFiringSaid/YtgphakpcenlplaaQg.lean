/- The program's arming and creation of a timer; no condition beyond that the timers lie in memory. -/
import Derived.Test.YtgphakpcenlplaaQf
import Derived.Deep.RegionWith
namespace Go.Proofs.Ytgphakpcenlplaa
open Go.RowKit Go.Sort

theorem set_alloc (w : World) (o : Obj) (p : Addr) (u : Value) (hp : p.block < w.heap.size) : (w.alloc o).setCell p u = (w.setCell p u).alloc o := by
  simp only [World.alloc, World.setCell]
  congr 1
  apply Array.ext_getElem?
  intro i
  simp only [Array.getElem?_modify, Array.getElem?_push, Array.size_modify]
  by_cases h : p.block = i
  · subst h
    simp [hp, Nat.ne_of_lt hp]
  · simp [h]
/-- The timer at place k, armed with a new element. -/
def onAt (zs : List Tr) (k : Nat) (hk : k < zs.length) (g : Nat) (due : Int) : List Tr := zs.set k ⟨zs[k].p, g, rearm due zs[k].x⟩
def oneP (g : Nat) (d s : Int) : PT := .node g d s .nil .nil
def ArmPost (w : World) (lo b d : Nat) (U : PT) (D : Option Addr) (zs : List Tr) (next : Int) (e : Ending) (w' : World) : Prop :=
  e = .returned (.tuple #[]) ∧ (∃ par, Alm w' lo b par U D d zs next) ∧ Fr lo w w'
set_option maxHeartbeats 1600000 in
set_option maxRecDepth 100000 in
theorem arm_any (w : World) (lo b d : Nat) (par : Value) (t : PT) (D : Option Addr) (zs : List Tr) (next due : Int) (h : Alm w lo b par t D d zs next) (k : Nat) (hk : k < zs.length) (hs : t.size ≤ 999) :
    Calls Try.prog 34 #[toBlk b, toBlk zs[k].p, .int .i64 due] w (ArmPost w lo b d (mergeP t (oneP w.heap.size due zs[k].x.seq)) D (onAt zs k hk w.heap.size due) next) := by
  have hz := h.get hk
  have c0 : w.cell? ⟨zs[k].p, 0, none⟩ = some (toBlk zs[k].e) := hz.1.cell 0
  have c3 : w.cell? ⟨zs[k].p, 3, none⟩ = some (.bool zs[k].x.armed) := hz.1.cell 3
  have f0 := hz.1.frozen 0
  have f3 := hz.1.frozen 3
  have e1 := hz.2.c1
  have np : zs[k].p < w.heap.size := hz.1.lt
  have hlo : lo ≤ w.heap.size := Nat.le_trans h.bnew (Nat.le_of_lt h.blk.lt)
  obtain ⟨W1, hW1⟩ : ∃ W1, W1 = w.alloc (.cells #[.int .i64 due, .int .i64 zs[k].x.seq, .pointer none, .pointer none, .pointer none] 65) := ⟨_, rfl⟩
  have K1 : Kept 0 0 w W1 := by rw [hW1]; exact Kept.alloc0 _ _
  have B1 : Blk W1 w.heap.size 65 #[.int .i64 due, .int .i64 zs[k].x.seq, .pointer none, .pointer none, .pointer none] := by rw [hW1]; exact Blk.new _ _ _
  have A1 := h.kept K1
  obtain ⟨W2, hW2⟩ : ∃ W2, W2 = W1.setCell ⟨zs[k].p, 0, none⟩ (toBlk w.heap.size) := ⟨_, rfl⟩
  have hz1 := A1.get hk
  have A2 : Alm W2 lo b par t D d (zs.set k ⟨zs[k].p, w.heap.size, { zs[k].x with due := due }⟩) next := by
    rw [hW2]
    refine A1.timer hk 0 (toBlk w.heap.size) _ rfl ⟨?_, ?_⟩
    · have := hz1.1.set_ 0 (toBlk w.heap.size)
      simpa using this
    · exact (show ElAt W1 w.heap.size due zs[k].x.seq from ⟨_, _, _, B1⟩).beside (Beside.set_ hz1.1 0 _) (by decide)
  have B2 : Blk W2 w.heap.size 65 #[.int .i64 due, .int .i64 zs[k].x.seq, .pointer none, .pointer none, .pointer none] := by rw [hW2]; exact Beside.set_ hz1.1 0 (toBlk w.heap.size) _ _ _ (by decide) B1
  obtain ⟨W3, hW3⟩ : ∃ W3, W3 = W2.setCell ⟨zs[k].p, 3, none⟩ (.bool true) := ⟨_, rfl⟩
  have hk2 : k < (zs.set k ⟨zs[k].p, w.heap.size, { zs[k].x with due := due }⟩).length := by simpa using hk
  have hz2 : TimAt W2 ⟨zs[k].p, w.heap.size, { zs[k].x with due := due }⟩ := by have := A2.get hk2; simpa using this
  have A3 : Hid (Alm W3 lo b par t D d (onAt zs k hk w.heap.size due) next) := by
    show Alm _ _ _ _ _ _ _ _ _
    rw [hW3]
    have := A2.timer hk2 3 (.bool true) ⟨zs[k].p, w.heap.size, rearm due zs[k].x⟩ (by simp)
    simp only [List.getElem_set_self, List.set_set] at this
    refine this ⟨?_, ?_⟩
    · have := hz2.1.set_ 3 (.bool true)
      simpa [rearm] using this
    · exact hz2.2.beside (Beside.set_ hz2.1 3 _) (by decide)
  have B3 : Hid (Blk W3 w.heap.size 65 #[.int .i64 due, .int .i64 zs[k].x.seq, .pointer none, .pointer none, .pointer none]) := by show Blk _ _ _ _; rw [hW3]; exact Beside.set_ hz2.1 3 (.bool true) _ _ _ (by decide) B2
  have T3 : Hid (TimAt W3 ⟨zs[k].p, w.heap.size, rearm due zs[k].x⟩) := by show TimAt _ _; have := A3.out.get (k := k) (by simpa [onAt] using hk); simpa [onAt] using this
  have F3 : Hid (Fr lo w W3) := by
    show Fr _ _ _
    have pn := h.pnew _ (List.getElem_mem hk)
    have := (Fr.kept (lo := lo) K1).trans ((Fr.set_ W1 pn 0 (toBlk w.heap.size)).trans (Fr.set_ _ pn 3 (.bool true)))
    rw [hW3, hW2]
    exact this
  have et : Hid (w.heap.size ∉ t.blocks) := fun hx => by have := h.lay.lt _ hx; omega
  have H3 : Hid (W3 = ((w.setCell ⟨zs[k].p, 0, none⟩ (toBlk w.heap.size)).setCell ⟨zs[k].p, 3, none⟩ (.bool true)).alloc (.cells #[.int .i64 due, .int .i64 zs[k].x.seq, .pointer none, .pointer none, .pointer none] 65)) := by
    show _ = _
    rw [hW3, hW2, hW1, set_alloc _ _ _ _ np, set_alloc _ _ _ _ (by simpa using np)]
  have TN := Lib.hid h.tnew
  clear h hz hW1 hW2 hW3 A1 A2 B1 B2 hz1 hz2 hk2 K1
  go_enter Try.func34, Try.ntmps34
  go_wp2_with fail
  rw [← H3.out]
  clear c0 c3 f0 f3 e1 H3
  have c0 : W3.cell? ⟨zs[k].p, 0, none⟩ = some (toBlk w.heap.size) := T3.out.1.cell 0
  have b0 := bx0 A3.out.blk
  obtain ⟨Y, hY⟩ : ∃ Y, Y = W3.drew := ⟨_, rfl⟩
  have KY : Hid (Kept 0 0 W3 Y) := by show Kept _ _ _ _; rw [hY]; exact (Kept.refl _ _ _).drew
  have AY := Lib.hid (A3.out.kept KY.out)
  have LN : Hid (Lay Y (.pointer none) (oneP w.heap.size due zs[k].x.seq)) := ⟨B3.out.kept KY.out (.inl (Nat.le_refl _)), trivial, trivial⟩
  have ND : Hid ((t.blocks ++ (oneP w.heap.size due zs[k].x.seq).blocks).Nodup) := by
    refine List.nodup_append.2 ⟨AY.out.tnd, by simp [oneP, PT.blocks], ?_⟩
    intro a ha c hc e
    simp [oneP, PT.blocks] at hc
    subst hc e
    exact et.out ha
  have CU : Hid (Calls Try.prog 52 #[t.ptr, toBlk w.heap.size] Y (UnionPost t (oneP w.heap.size due zs[k].x.seq) Y)) := unionP_any t (oneP w.heap.size due zs[k].x.seq) _ _ Y (by simp [oneP, PT.size]; omega) AY.out.lay LN.out ND.out
  have isEl : Hid (∀ g ∈ t.blocks ++ (oneP w.heap.size due zs[k].x.seq).blocks, ∃ cs, Blk Y g 65 cs) := fun g hg => by
    rcases List.mem_append.1 hg with hg | hg
    · exact AY.out.lay.isEl g hg
    · exact LN.out.isEl g hg
  have new : Hid (∀ g ∈ t.blocks ++ (oneP w.heap.size due zs[k].x.seq).blocks, lo ≤ g) := fun g hg => by
    rcases List.mem_append.1 hg with hg | hg
    · exact TN.out g hg
    · simp [oneP, PT.blocks] at hg; omega
  have PB := Lib.hid (mergeP_blocks t (oneP w.heap.size due zs[k].x.seq))
  have QQ : Hid (∀ w4 par', Lay w4 par' (mergeP t (oneP w.heap.size due zs[k].x.seq)) → Turned (t.blocks ++ (oneP w.heap.size due zs[k].x.seq).blocks) Y w4 → Alm (w4.setCell ⟨b, 0, none⟩ (mergeP t (oneP w.heap.size due zs[k].x.seq)).ptr) lo b par' (mergeP t (oneP w.heap.size due zs[k].x.seq)) D d (onAt zs k hk w.heap.size due) next ∧ Fr lo w (w4.setCell ⟨b, 0, none⟩ (mergeP t (oneP w.heap.size due zs[k].x.seq)).ptr) ∧ Beside 65 Y w4) := by
    intro w4 par' l4 t4
    refine ⟨AY.out.tree t4 isEl.out (keeps_union AY.out.lay LN.out l4 t4) l4 ((List.Perm.nodup_iff PB.out).2 ND.out) (fun g hg => new.out g (PB.out.mem_iff.1 hg)), (F3.out.trans (Fr.kept KY.out)).trans ((Fr.turned t4 new.out).trans (Fr.set_ w4 AY.out.bnew 0 _)), fun g ty cs hne hb => hb.turned t4 (fun hg => ?_)⟩
    obtain ⟨cs', hb'⟩ := isEl.out g hg
    exact blk_ne hb hb' (Ne.symm hne) rfl
  clear isEl new PB
  subst hY
  go_region_with ((go_at_call 52; refine (CU.out).mono ?_; rintro e w4 ⟨rfl, ⟨par', l4⟩, t4⟩; have Q4 := Lib.hid (QQ.out w4 par' l4 t4); have b4 := Q4.out.2.2 _ _ _ (by decide) AY.out.blk; have r0 := bx0 b4; have fr0 := b4.frozen 0; clear l4 t4 b4))
  all_goals go_wp2_with fail
  all_goals go_end0
  all_goals exact ⟨rfl, ⟨par', Q4.out.1⟩, Q4.out.2.1⟩
theorem arm_at (w : World) (lo b d : Nat) (par : Value) (t : PT) (D : Option Addr) (zs : List Tr) (next due : Int) (h : Alm w lo b par t D d zs next) (k : Nat) (z : Tr) (hz : zs[k]? = some z) (hs : t.size ≤ 999) :
    Calls Try.prog 34 #[toBlk b, toBlk z.p, .int .i64 due] w (ArmPost w lo b d (mergeP t (oneP w.heap.size due z.x.seq)) D (zs.set k ⟨z.p, w.heap.size, rearm due z.x⟩) next) := by
  obtain ⟨hk, rfl⟩ := List.getElem?_eq_some_iff.1 hz
  exact arm_any w lo b d par t D zs next due h k hk hs
theorem disarm_at (w : World) (lo b d : Nat) (t : PT) (D : Option Addr) (zs : List Tr) (next : Int) (h : Alm w lo b (.pointer none) t D d zs next) (k : Nat) (z : Tr) (hz : zs[k]? = some z) (ha : z.x.armed = true) (c : List Step) (l r : PT) (hf : findP t z.x.seq [] = some (c, .node z.e z.x.due z.x.seq l r)) (hs : t.size ≤ 1000) :
    Calls Try.prog 24 #[toBlk b, toBlk z.p] w (DisPost w lo b d (plugJ c (mergeP l r)) D (zs.set k ⟨z.p, z.e, disarm z.x⟩) next) := by
  obtain ⟨hk, rfl⟩ := List.getElem?_eq_some_iff.1 hz
  exact disarm_yes w lo b d t D zs next h k hk ha c l r hf hs
theorem Alm.nextSet {w : World} {lo b d : Nat} {par : Value} {t : PT} {D : Option Addr} {zs : List Tr} {next : Int} (h : Alm w lo b par t D d zs next) (n : Int) : Alm (w.setCell ⟨b, 2, none⟩ (.int .i64 n)) lo b par t D d zs n := by
  have s := Beside.set_ h.blk 2 (.int .i64 n)
  refine ⟨?_, row_beside h.row s (by decide), fun z hz => (h.tim z hz).beside s (by decide) (by decide), h.nd, h.lay.beside s (by decide), h.tnd, h.bnew, h.pnew, h.tnew⟩
  have := h.blk.set_ 2 (.int .i64 n)
  simpa using this

def NewPost (w : World) (lo b : Nat) (t : PT) (zs : List Tr) (next due what whom : Int) (e : Ending) (w' : World) : Prop :=
  e = .returned (.int .i64 next) ∧ (∃ par D d p g, Alm w' lo b par (mergeP t (oneP g due next)) D d (zs ++ [⟨p, g, ⟨next, due, what, whom, true⟩⟩]) (next + 1)) ∧ Fr lo w w'
set_option maxHeartbeats 1600000 in
theorem create_any (w : World) (lo b d : Nat) (par : Value) (t : PT) (D : Option Addr) (zs : List Tr) (next due what whom : Int) (h : Alm w lo b par t D d zs next) (hn : zs.length ≤ 64) (hs : t.size ≤ 999) (h0 : 0 ≤ next) (h1 : next < 1000000) :
    Calls Try.prog 21 #[toBlk b, .int .i64 what, .int .i64 whom, .int .i64 due] w (NewPost w lo b t zs next due what whom) := by
  have nb : b < w.heap.size := h.blk.lt
  have hlo : lo ≤ w.heap.size := Nat.le_trans h.bnew (Nat.le_of_lt nb)
  obtain ⟨W, hW⟩ : ∃ W, W = (w.alloc (.cells #[.int .i64 0, .int .i64 next, .pointer none, .pointer none, .pointer none] 65)).alloc (.cells #[toBlk w.heap.size, .int .i64 what, .int .i64 whom, .bool false] 84) := ⟨_, rfl⟩
  have KW : Kept 0 0 w W := by rw [hW]; exact (Kept.alloc0 _ _).alloc _
  have TW : TimAt W ⟨w.heap.size + 1, w.heap.size, ⟨next, 0, what, whom, false⟩⟩ := by
    rw [hW]
    exact ⟨blk2_new _ _ _ _, ⟨_, _, _, (Blk.new _ _ _).alloc _⟩⟩
  have AW := h.kept KW
  obtain ⟨V, hV⟩ : ∃ V, V = W.setCell ⟨b, 2, none⟩ (.int .i64 (next + 1)) := ⟨_, rfl⟩
  have AV : Hid (Alm V lo b par t D d zs (next + 1)) := by show Alm _ _ _ _ _ _ _ _ _; rw [hV]; exact AW.nextSet _
  have TV : Hid (TimAt V ⟨w.heap.size + 1, w.heap.size, ⟨next, 0, what, whom, false⟩⟩) := by show TimAt _ _; rw [hV]; exact TW.beside (Beside.set_ AW.blk 2 _) (by decide) (by decide)
  have FV : Hid (Fr lo w V) := by show Fr _ _ _; rw [hV]; exact (Fr.kept KW).trans (Fr.set_ W h.bnew _ _)
  have PN : Hid (w.heap.size + 1 ∉ zs.map Tr.p) := fun hm => by
    obtain ⟨z, hz, e⟩ := List.mem_map.1 hm
    have := (h.tim z hz).1.lt
    omega
  have zV : w.heap.size + 2 ≤ V.heap.size := by rw [hV, hW]; simp
  have HV : Hid (V = ((w.setCell ⟨b, 2, none⟩ (.int .i64 (next + 1))).alloc (.cells #[.int .i64 0, .int .i64 next, .pointer none, .pointer none, .pointer none] 65)).alloc (.cells #[toBlk w.heap.size, .int .i64 what, .int .i64 whom, .bool false] 84)) := by
    show _ = _
    rw [hV, hW, set_alloc _ _ _ _ (by simp; omega), set_alloc _ _ _ _ (by simpa using nb)]
  have b2 := bx2 h.blk
  have f2 := h.blk.frozen 2
  clear h hW hV KW TW AW
  go_enter Try.func21, Try.ntmps21
  go_upto_region 3 with fail
  rw [← HV.out]
  clear b2 f2 HV
  obtain ⟨ps, hps⟩ : ∃ ps, ps = zs.map Tr.p := ⟨_, rfl⟩
  have PL : Hid (ps.length = zs.length) := by show _ = _; rw [hps]; simp
  have hp64 : ps.length ≤ 64 := by have := PL.out; omega
  have ab := AV.out.blk
  rw [← PL.out] at ab
  have a1 := bx1 ab
  have fa1 := ab.frozen 1
  have nv : b < V.heap.size := ab.lt
  obtain ⟨Z, hZ⟩ : ∃ Z, Z = V.alloc (.cells #[toBlk (w.heap.size + 1)] 61) := ⟨_, rfl⟩
  have KZ : Hid (Kept 0 0 V Z) := by show Kept _ _ _ _; rw [hZ]; exact Kept.alloc0 _ _
  have RZ : Hid (Z.ownsRow lo 61 ptR.k (.slice D ps.length d) ps.length (ptR.flat ps)) := by
    have := row_kept AV.out.row KZ.out
    rw [← hps, ← PL.out] at this
    exact this
  have SZ : Hid (RdR ptR Z (V.heap.size + 1) (some ⟨V.heap.size, 0, none⟩) [w.heap.size + 1]) := by
    have h0 : Z.ownsRow V.heap.size 61 ptR.k (.slice (some ⟨V.heap.size, 0, none⟩) 1 1) 1 (ptR.flat [w.heap.size + 1]) := by rw [hZ]; exact own_lit1 V _
    have h1 := (OwnZ.rd (R := ptR) (OwnZ.of_row h0)).2
    have e2 : Z.heap.size = V.heap.size + 1 := by rw [hZ]; simp
    show RdR _ _ _ _ _
    rw [e2] at h1
    exact h1
  have AZ := Lib.hid (ab.kept KZ.out (.inl (Nat.le_refl _)))
  have zz : lo ≤ Z.heap.size := Nat.le_trans hlo (Nat.le_trans (by omega) KZ.out.size)
  have HPS := Lib.hid hps
  have HZ := Lib.hid hZ
  have HT := Lib.hid ptSlice
  rw [hZ] at RZ SZ zz
  clear hps hZ
  go_wp2_with (at_builtin; refine wpList_app (R := ptR) rfl (.tmp 31) (.tmp 33) rfl HT.out lo D d ps rfl (by exact RZ.out) (V.heap.size + 1) (some ⟨V.heap.size, 0, none⟩) 1 [w.heap.size + 1] rfl (by exact SZ.out) (by simp [maxLen]; omega) (by simp; omega) (by exact zz) ?_; intro D2 d2 w3 hown hgrow hat; have hgz : Z.grownBy w3 (rowAt D) := (by rw [HZ.out]; exact hgrow); have s3 : Beside 61 Z w3 := Beside.app (by rw [HZ.out]; exact RZ.out) hgz; have A3 := s3 _ _ _ (by decide) AZ.out; have a13 := bx1 A3; have f13 := A3.frozen 1; have hown3 : w3.ownsRow lo 61 ptR.k (.slice D2 (ps ++ [w.heap.size + 1]).length d2) (ps ++ [w.heap.size + 1]).length (ptR.flat (ps ++ [w.heap.size + 1])) := hown; clear hown hgrow hat)
  have PU := Lib.hid (Alm.push AV.out ⟨w.heap.size + 1, w.heap.size, ⟨next, 0, what, whom, false⟩⟩ TV.out PN.out (by simp only; omega) KZ.out hgz (D2 := D2) (d2 := d2) (by rw [← HPS.out]; exact hown3))
  rw [← HPS.out] at PU
  obtain ⟨W5, hW5⟩ : ∃ W5, W5 = w3.setCell ⟨b, 1, none⟩ (.slice D2 (ps.length + 1) d2) := ⟨_, rfl⟩
  have eL : (ps ++ [w.heap.size + 1]).length = ps.length + 1 := by simp
  have A5 : Hid (Alm W5 lo b par t D2 d2 (zs ++ [⟨w.heap.size + 1, w.heap.size, ⟨next, 0, what, whom, false⟩⟩]) (next + 1)) := by
    have := PU.out.1
    simp only [eL] at this
    rw [← hW5] at this
    exact this
  have F5 : Hid (Fr lo w W5) := fun K hK hk => by
    have := PU.out.2 K (FV.out K hK hk) hK
    simp only [eL] at this
    rw [← hW5] at this
    exact this
  have CA := Lib.hid (arm_at W5 lo b d2 par t D2 _ (next + 1) due A5.out zs.length ⟨w.heap.size + 1, w.heap.size, ⟨next, 0, what, whom, false⟩⟩ (by simp) hs)
  rw [← hW5]
  clear hW5 PU hown3 hgz s3 A3 a13 f13 a1 fa1 eL
  with_reducible refine CA.out.mono ?_
  rintro e w6 ⟨rfl, ⟨par6, a6⟩, f6⟩
  have e6 : (zs ++ [(⟨w.heap.size + 1, w.heap.size, ⟨next, 0, what, whom, false⟩⟩ : Tr)]).set zs.length (⟨w.heap.size + 1, W5.heap.size, rearm due ⟨next, 0, what, whom, false⟩⟩ : Tr) = zs ++ [⟨w.heap.size + 1, W5.heap.size, ⟨next, due, what, whom, true⟩⟩] := by simp [rearm]
  have A6 : Hid (Alm w6 lo b par6 (mergeP t (oneP W5.heap.size due next)) D2 d2 (zs ++ [⟨w.heap.size + 1, W5.heap.size, ⟨next, due, what, whom, true⟩⟩]) (next + 1)) := by rw [← e6]; exact a6
  have F6 := Lib.hid (F5.out.trans f6)
  have t6 := A6.out.tim ⟨w.heap.size + 1, W5.heap.size, ⟨next, due, what, whom, true⟩⟩ (by simp)
  have c0 : w6.cell? ⟨w.heap.size + 1, 0, none⟩ = some (toBlk W5.heap.size) := t6.1.cell 0
  have c1 := t6.2.c1
  simp only at c1
  clear a6 f6 e6 t6 CA
  go_wp2_with fail
  go_ret
  refine ⟨rfl, ?_, F6.out⟩
  exact ⟨par6, D2, d2, w.heap.size + 1, W5.heap.size, A6.out⟩
end Go.Proofs.Ytgphakpcenlplaa
