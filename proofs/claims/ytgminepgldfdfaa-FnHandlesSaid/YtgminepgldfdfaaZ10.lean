/- The law of handles returns true for every code that can be read; no condition. -/
import Derived.Test.YtgminepgldfdfaaZA
namespace Go.Proofs.Ytgminepgldfdfaa
open Go.RowKit

theorem TakeDoes.at_ {f : Nat} {ages : List Int} {used : List Bool} {ages' : List Int} {used' : List Bool} {s a : Int} {b : Bool} (h : TakeDoes f ages used ages' used' s a b) (A A' : Option Addr) (c c' B : Nat) (w : World) (hB : B ≤ w.heap.size) (hr : RdS w B A A' ages used) :
    Calls Try.prog f #[.agg #[.slice A ages.length c, .slice A' used.length c']] w fun e w' => ∃ (D D' : Option Addr) (d d' : Nat),
      e = .returned (.tuple #[.agg #[.slice D ages'.length d, .slice D' used'.length d'], .agg #[.int .i64 s, .int .i64 a], .bool b]) ∧ OwnS w' w.heap.size w'.heap.size D d D' d' ages' used' ∧ Kept 0 0 w w' := h A A' c c' B w hB hr
theorem first_free (ages : List Int) (used : List Bool) : ∀ n, NoneFree ages used n ∨ ∃ k, k < n ∧ freeB ages used k = true ∧ NoneFree ages used k := by
  intro n
  induction n with
  | zero => exact .inl (fun i hi => by omega)
  | succ n ih =>
    rcases ih with h | ⟨k, h1, h2, h3⟩
    · cases e : freeB ages used n
      · exact .inl (fun i hi => by
          by_cases hin : i = n
          · rw [hin]; exact e
          · exact h i (by omega))
      · exact .inr ⟨n, by omega, e, h⟩
    · exact .inr ⟨k, by omega, h2, h3⟩
theorem app_row {w : World} {lo : Nat} {v : Value} {l : List (Int × Int)} {x : Int × Int} (h : w.ownsRow lo 36 2 v (l.length + 1) (hcells l ++ [.int .i64 x.1, .int .i64 x.2])) : w.ownsRow lo 36 2 v (l ++ [x]).length (hcells (l ++ [x])) := by
  rw [hcells_append, List.length_append]
  exact h
theorem app_lie {W : World} {v : Value} {b n cap : Nat} (h : v.ownBlock = some b ∨ b = W.heap.size) : (Value.slice (some ⟨b, 0, none⟩) n cap).ownBlock = v.ownBlock ∨ (Value.slice (some ⟨b, 0, none⟩) n cap).ownBlock = none ∨ ∃ b', (Value.slice (some ⟨b, 0, none⟩) n cap).ownBlock = some b' ∧ W.heap.size ≤ b' := by
  rcases h with h | h
  · exact .inl h.symm
  · exact .inr (.inr ⟨b, rfl, by omega⟩)
theorem OwnS.grown {W W' : World} {lo hi d d' l n : Nat} {D D' : Option Addr} {ages : List Int} {used : List Bool} {v : Value} {ys : List Value} (h : OwnS W lo hi D d D' d' ages used) (hr : W.ownsRow l 36 2 v n ys) (hg : W.grownBy W' v.ownBlock) : OwnS W' lo hi D d D' d' ages used := by
  cases hb : v.ownBlock with
  | none =>
    rw [hb] at hg
    exact h.kept (lo' := 0) (hi' := 0) (Kept.of_grown hg (by intro k hk; cases hk)) (.inl (Nat.le_refl _))
  | some b =>
    rw [hb] at hg
    obtain ⟨cs, hbl⟩ := row_blk hr hb
    exact h.beside hbl (by decide) (by decide) (kept_of_row hg)
theorem DropDoes.at_ {f : Nat} {ages : List Int} {used : List Bool} {s a : Int} {ages' : List Int} {used' : List Bool} {b : Bool} (h : DropDoes f ages used s a ages' used' b) (A A' : Option Addr) (c c' B : Nat) (w : World) (hB : B ≤ w.heap.size) (hr : RdS w B A A' ages used) :
    Calls Try.prog f #[.agg #[.slice A ages.length c, .slice A' used.length c'], .agg #[.int .i64 s, .int .i64 a]] w fun e w' => ∃ (D D' : Option Addr) (d d' : Nat),
      e = .returned (.tuple #[.agg #[.slice D ages'.length d, .slice D' used'.length d'], .bool b]) ∧ OwnS w' w.heap.size w'.heap.size D d D' d' ages' used' ∧ Kept 0 0 w w' := h A A' c c' B w hB hr
/-- A box of the round's own that holds Slots. -/
def SBox (w wx : World) (gs : Nat) (p : Value) (ages : List Int) (used : List Bool) : Prop :=
  ∃ (gx : Nat) (D D' : Option Addr) (d d' : Nat), p = .pointer (some ⟨gx, 0, none⟩) ∧ gs < gx ∧ Blk wx gx 31 #[.slice D ages.length d, .slice D' used.length d'] ∧ OwnS wx w.heap.size wx.heap.size D d D' d' ages used
theorem sbox_new {w wx : World} {gs lo : Nat} {D D' : Option Addr} {d d' : Nat} {ages : List Int} {used : List Bool} (ho : OwnS wx lo wx.heap.size D d D' d' ages used) (hlo : w.heap.size ≤ lo) (hg : gs < wx.heap.size) : SBox w (wx.alloc (.cells #[.slice D ages.length d, .slice D' used.length d'] 31)) gs (.pointer (some ⟨wx.heap.size, 0, none⟩)) ages used :=
  ⟨_, D, D', d, d', rfl, hg, Blk.new _ _ _, ⟨((ho.i.kept (Kept.alloc0 _ _) (by omega)).wide hlo (by simp)), ((ho.b.kept (Kept.alloc0 _ _) (by omega)).wide hlo (by simp))⟩⟩
theorem sbox_set {w wx : World} {g gs lo : Nat} {D D' : Option Addr} {d d' : Nat} {ages : List Int} {used : List Bool} (hx : Blk wx g 31 #[.slice none 0 0, .slice none 0 0]) (ho : OwnS wx lo wx.heap.size D d D' d' ages used) (hlo : w.heap.size ≤ lo) (hg : gs < g) : SBox w ((wx.setCell ⟨g, 0, none⟩ (.slice D ages.length d)).setCell ⟨g, 1, none⟩ (.slice D' used.length d')) gs (.pointer (some ⟨g, 0, none⟩)) ages used := by
  have hk : Kept g (g + 1) wx ((wx.setCell ⟨g, 0, none⟩ (.slice D ages.length d)).setCell ⟨g, 1, none⟩ (.slice D' used.length d')) :=
    ((Kept.refl g (g + 1) wx).setCell (p := ⟨g, 0, none⟩) (.inr ⟨Nat.le_refl _, Nat.lt_succ_self _⟩) _).setCell (p := ⟨g, 1, none⟩) (.inr ⟨Nat.le_refl _, Nat.lt_succ_self _⟩) _
  have o := ho.beside hx (by decide) (by decide) hk
  refine ⟨g, D, D', d, d', rfl, hg, by simpa using (hx.set_ 0 (.slice D ages.length d)).set_ 1 (.slice D' used.length d'), ⟨o.i.wide hlo hk.size, o.b.wide hlo hk.size⟩⟩
/-- A store into a box of the round's own. -/
theorem HM.far {w wr : World} {A : Option Addr} {c : Nat} {xs : List Int} {g gs : Nat} {ages : List Int} {used : List Bool} {held gone : List (Int × Int)} {v vg : Value} (h : HM w wr A c xs g gs ages used held gone v vg) {b : Nat} {cs : Array Value} (hb : Blk wr b 31 cs) (hne : gs ≠ b) (hw : w.heap.size ≤ b) {wr' : World} (hk : Kept b (b + 1) wr wr') : HM w wr' A c xs g gs ages used held gone v vg := by
  obtain ⟨i, q, hi, hd⟩ := h.dice
  obtain ⟨D, D', d, d', hx, ho⟩ := h.box
  have o := ho.beside hb (by decide) (by decide) hk
  have z := hk.size
  exact ⟨h.k.trans2 hk (.inr hw), ⟨i, q, hi, blk_beside hd (blk_ne hd hb (by decide)) hk⟩, ⟨D, D', d, d', blk_beside hx hne hk, ⟨o.i.wide (Nat.le_refl _) z, o.b.wide (Nat.le_refl _) z⟩⟩, row_other h.held (row_ne h.held hb (by decide)) hk, row_other h.gone (row_ne h.gone hb (by decide)) hk, h.ne, h.g1, h.g2⟩
theorem two_sets (wx : World) (g : Nat) (u u' : Value) : Kept g (g + 1) wx ((wx.setCell ⟨g, 0, none⟩ u).setCell ⟨g, 1, none⟩ u') :=
  ((Kept.refl g (g + 1) wx).setCell (p := ⟨g, 0, none⟩) (.inr ⟨Nat.le_refl _, Nat.lt_succ_self _⟩) _).setCell (p := ⟨g, 1, none⟩) (.inr ⟨Nat.le_refl _, Nat.lt_succ_self _⟩) _
theorem cell_far {w : World} {b o g : Nat} {u u' x : Value} (hne : b ≠ g) (h : w.cell? ⟨b, o, none⟩ = some x) : ((w.setCell ⟨g, 0, none⟩ u).setCell ⟨g, 1, none⟩ u').cell? ⟨b, o, none⟩ = some x := by
  rw [World.cell?_setCell_other _ _ _ _ (fun e => by injection e with e1 _ _; exact hne e1.symm), World.cell?_setCell_other _ _ _ _ (fun e => by injection e with e1 _ _; exact hne e1.symm)]
  exact h
theorem row_form {w : World} {lo n : Nat} {v : Value} {xs : List Value} (h : w.ownsRow lo 36 2 v n xs) : ∃ F f, v = .slice F n f := by
  rcases h.2 with ⟨rfl, rfl⟩ | ⟨g, cap, cur, rfl, _⟩
  · exact ⟨none, 0, rfl⟩
  · exact ⟨_, _, rfl⟩
theorem Inv.len_le {n t : Nat} {ages : List Int} {used : List Bool} {held gone : List (Int × Int)} (h : Inv n t ages used held gone) {m : Nat} (hm : n ≤ m) : held.length ≤ m := by
  have h1 := (cntT_bd used used.length).2
  have h2 := slotsOk_len h.ok
  have h3 := h.cnt
  have h4 := h.len
  omega
theorem own_empty2 {w : World} {g e base : Nat} (h : Blk w g e #[]) (hb : base ≤ g) : w.ownsRow base e 2 (.slice (some ⟨g, 0, none⟩) 0 0) 0 [] :=
  ⟨rfl, .inr ⟨g, 0, #[], rfl, hb, h, Nat.le_refl _, by unfold maxLen; omega, rfl, rfl⟩⟩
theorem start_hm {w w3 : World} {A : Option Addr} {c i : Nat} {q : Int} {xs : List Int} {D D' : Option Addr} {d d' lo : Nat} {ages : List Int} {used : List Bool} (hk : Kept 0 0 w w3) (hb : Blk w3 w.heap.size 55 #[.slice A xs.length c, .int .i64 i, .int .u64 q]) (hi : i ≤ xs.length) (ho : OwnS w3 lo w3.heap.size D d D' d' ages used) (hlo : w.heap.size ≤ lo) (hw : w.heap.size ≤ w3.heap.size) :
    HM w (((w3.alloc (.cells #[.slice D ages.length d, .slice D' used.length d'] 31)).alloc (.cells #[] 36)).alloc (.cells #[] 36)) A c xs w.heap.size w3.heap.size ages used [] [] (.slice (some ⟨w3.heap.size + 1, 0, none⟩) 0 0) (.slice (some ⟨w3.heap.size + 1 + 1, 0, none⟩) 0 0) := by
  have kk : Kept 0 0 w3 (((w3.alloc (.cells #[.slice D ages.length d, .slice D' used.length d'] 31)).alloc (.cells #[] 36)).alloc (.cells #[] 36)) := ((Kept.alloc0 _ _).alloc _).alloc _
  have o := ho.kept kk (.inl (Nat.le_refl _))
  refine ⟨hk.trans kk, ⟨i, q, hi, hb.kept kk (.inl (Nat.le_refl _))⟩, ⟨D, D', d, d', ((Blk.new _ _ _).alloc _).alloc _, ⟨o.i.wide hlo kk.size, o.b.wide hlo kk.size⟩⟩, ?_, ?_, .inr (.inr (by simp [Value.ownBlock])), Nat.le_refl _, hw⟩
  · exact own_empty2 (by have := (Blk.new (w3.alloc (.cells #[.slice D ages.length d, .slice D' used.length d'] 31)) 36 #[]).alloc (.cells #[] 36); simpa using this) (by omega)
  · exact own_empty2 (by have := (Blk.new ((w3.alloc (.cells #[.slice D ages.length d, .slice D' used.length d'] 31)).alloc (.cells #[] 36)) 36 #[]); simpa using this) (by omega)

set_option maxRecDepth 100000 in
set_option maxHeartbeats 6400000 in
theorem lawHandles_small (xs : List Int) (A : Option Addr) (c : Nat) (w : World) (h : Rd (Value.int .u8) w w.heap.size A xs) (hx : ∀ x ∈ xs, 0 ≤ x ∧ x ≤ 255) (hl : xs.length ≤ 4096) :
    Calls Try.prog 3 #[.slice A xs.length c] w fun e w' => e = .returned (.bool true) ∧ Kept 0 0 w w' := by
  have H := Lib.hid h
  have HX := Lib.hid hx
  have hbig : decide (4096 < xs.length) = false := by simp; omega
  clear h hx
  go_enter Try.func3, Try.ntmps3
  go_wp2_with fail
  with_reducible refine (big_any _ _ _ _ (by unfold maxLen; omega)).mono ?_
  rintro e w' ⟨rfl, rfl⟩
  rw [hbig]
  clear hbig
  go_wp2_with fail
  with_reducible refine (roll_any _ _ _ w.heap.size _ (Nat.le_refl _) H.out hl).mono ?_
  rintro e w1 ⟨q, rfl, hb, hk⟩
  have B1 := Lib.hid hb
  have K1 := Lib.hid hk
  have z1 := hb.lt
  clear hb hk
  go_wp2_with fail
  with_reducible refine (below_any xs A c w.heap.size w.heap.size 0 q 6 _ (Nat.le_refl _) (by exact H.out.kept (Nat.le_refl _) K1.out (.inl (Nat.le_refl _))) HX.out hl (Nat.zero_le _) (by simpa using B1.out) (by omega) (by omega)).mono ?_
  rintro e w2 ⟨r, i2, q2, rfl, r0, r1, hi2, hb, hk⟩
  obtain ⟨n, hn⟩ : ∃ n : Nat, (n : Int) = 1 + r := ⟨(1 + r).toNat, by omega⟩
  have hn1 : 1 ≤ n := by omega
  have hn2 : n ≤ 6 := by omega
  have B2 := Lib.hid hb
  have K2 := Lib.hid (K1.out.trans2 hk (.inr (Nat.le_refl _)))
  have z2 := hk.size
  clear hb hk B1 K1
  go_wp2_with fail
  rw [← hn]
  clear hn r0 r1
  obtain ⟨ages, hages⟩ : ∃ ages : List Int, ages = List.replicate n 0 := ⟨_, rfl⟩
  obtain ⟨used, hused⟩ : ∃ used : List Bool, used = List.replicate n false := ⟨_, rfl⟩
  have I0 : Hid (Inv n 0 ages used [] []) := by show Inv _ _ _ _ _ _; rw [hages, hused]; exact Inv.start n hn1 (by omega)
  with_reducible refine (newImpl_ok ages used n hages hused hn1 (by omega) _).mono ?_
  rintro e w3 ⟨D, D', d, d', rfl, ho, hk⟩
  have B3 := Lib.hid (B2.out.kept hk (by omega))
  have K3 := Lib.hid (K2.out.trans hk)
  have O3 := Lib.hid ho
  have z3 := hk.size
  clear hk ho B2 K2 hages hused
  go_wp2_with fail
  obtain ⟨V, hV⟩ : ∃ V, V = ((w3.alloc (.cells #[.slice D ages.length d, .slice D' used.length d'] 31)).alloc (.cells #[] 36)).alloc (.cells #[] 36) := ⟨_, rfl⟩
  have M0 : Hid (HM w V A c xs w.heap.size w3.heap.size ages used [] [] (.slice (some ⟨w3.heap.size + 1, 0, none⟩) 0 0) (.slice (some ⟨w3.heap.size + 1 + 1, 0, none⟩) 0 0)) := by
    show HM _ _ _ _ _ _ _ _ _ _ _ _ _
    rw [hV]
    exact start_hm K3.out B3.out hi2 O3.out (by omega) (by omega)
  rw [← hV]
  clear hV K3 B3 O3 hi2
  go_loopw [7, 8, 9] (fun v vg i wr => ∃ t : Nat, t ≤ 20 ∧ i = .int .i64 t ∧ Hid (∃ ages used held gone, HM w wr A c xs w.heap.size w3.heap.size ages used held gone v vg ∧ Inv n t ages used held gone)) (fun _ _ i _ => 20 - (intOf i).toNat)
  case atStart => exact ⟨0, by omega, rfl, ⟨ages, used, [], [], M0.out, I0.out⟩⟩
  case round =>
    clear M0 I0
    obtain ⟨t, ht, rfl, HR⟩ := hrel
    obtain ⟨ages, used, held, gone, hm, hinv⟩ := HR.out
    clear HR
    have hl1 : held.length ≤ 6 := hinv.len_le (by omega)
    obtain ⟨F, f, rfl⟩ := row_form hm.held
    obtain ⟨Fg, fg, rfl⟩ := row_form hm.gone
    have M := Lib.hid hm
    have I := Lib.hid hinv
    clear hm hinv
    by_cases hlt : t < 20
    · go_upto_region 13 with fail
      go_cut [48] (fun p wx => ∃ b, p = .bool b ∧ (b = false → 0 < held.length) ∧ Hid (HM w wx A c xs w.heap.size w3.heap.size ages used held gone (.slice F held.length f) (.slice Fg gone.length fg)))
      case first =>
        obtain ⟨i1, q1, hi1, hb1⟩ := M.out.dice
        have BD := Lib.hid hb1
        clear hb1
        go_wp2_with fail
        with_reducible refine (below_any xs A c w.heap.size w.heap.size i1 q1 3 _ (Nat.le_refl _) (by exact H.out.kept (Nat.le_refl _) M.out.k (.inl (Nat.le_refl _))) HX.out hl hi1 (by exact BD.out) (by omega) (by omega)).mono ?_
        rintro e w5 ⟨r, i2, q2, rfl, r0, r1, hi2, hb, hk⟩
        have M5 := Lib.hid (M.out.draw hk hi2 hb)
        clear hb hk M BD
        by_cases hr : 0 < r
        · have hr' : decide (0 < r) = true := by simpa using hr
          go_wp2_with fail
          go_meet
          exact ⟨true, rfl, (fun h => by cases h), M5⟩
        · have hr' : decide (0 < r) = false := by simpa using hr
          by_cases h0 : held.length = 0
          · have h0' : ((held.length : Int) == 0) = true := by simp [h0]
            clear h0
            go_wp2_with fail
            go_meet
            exact ⟨true, rfl, (fun h => by cases h), M5⟩
          · have h0' : ((held.length : Int) == 0) = false := beq_eq_false_iff_ne.2 (by omega)
            have h0'' : 0 < held.length := by omega
            clear h0
            go_wp2_with fail
            go_meet
            exact ⟨false, rfl, fun _ => h0'', M5⟩
      case rest =>
        obtain ⟨wb, rfl⟩ : ∃ wb : World, wb = wc := ⟨_, rfl⟩
        obtain ⟨b, rfl, hb0, MB⟩ := hcut
        clear M
        go_upto_if 48 with fail
        go_cut [7, 8] (fun v vg wx => Hid (∃ ages used held gone, HM w wx A c xs w.heap.size w3.heap.size ages used held gone v vg ∧ Inv n (t + 1) ages used held gone))
        case first =>
          cases b
          · have h0 := hb0 rfl
            clear hb0
            obtain ⟨bh, caph, hvh, hbh, hch, hcells⟩ := row_at MB.out.held h0
            injection hvh with e1 e2 e3
            subst e1 e3
            obtain ⟨i1, q1, hi1, hb1⟩ := MB.out.dice
            have BD := Lib.hid hb1
            have HC := Lib.hid hcells
            clear hb1 hcells e2
            go_wp2_with fail
            with_reducible refine (below_any xs A c w.heap.size w.heap.size i1 q1 _ _ (Nat.le_refl _) (by exact H.out.kept (Nat.le_refl _) MB.out.k (.inl (Nat.le_refl _))) HX.out hl hi1 (by exact BD.out) (by omega) (by omega)).mono ?_
            rintro e w5 ⟨r, i2, q2, rfl, r0, r1, hi2, hb, hk⟩
            have M5 := Lib.hid (MB.out.draw hk hi2 hb)
            clear hb hk MB BD HC
            obtain ⟨kk, rfl⟩ := Int.eq_ofNat_of_zero_le r0
            have hkk : kk < held.length := by omega
            obtain ⟨k, a, hka⟩ : ∃ (k : Nat) (a : Int), held[kk] = ((k : Int), a) := by
              obtain ⟨_, k, ek, _⟩ := holds_yes (I.out.hold _ (List.getElem_mem hkk))
              exact ⟨k, held[kk].2, by rw [← ek]⟩
            obtain ⟨h1, h2, ea, hat, ha0, hh, hinv'⟩ := I.out.drop ht hkk hka
            obtain ⟨ages', ea'⟩ : ∃ ages', ages' = ages.set k (a + 1) := ⟨_, rfl⟩
            obtain ⟨used', eu'⟩ : ∃ used', used' = used.set k false := ⟨_, rfl⟩
            have DY := dropImpl_yes ages used k a ages' used' I.out.ok hh (by omega) h1 h2 ea ha0 (by omega) ea' eu'
            rw [← ea', ← eu'] at hinv'
            have hnot : holdsB ages' used' k a = false := hinv'.past_not ((k : Int), a) (by simp)
            have DN := dropImpl_no ages' used' k a hinv'.ok (.inl hnot)
            have hl2 := slotsOk_len I.out.ok
            have IN := Lib.hid hinv'
            have hl3 : ages'.length ≤ 64 := (slotsOk_len hinv'.ok).2.1
            have hl4 : used'.length ≤ 64 := by have := slotsOk_len hinv'.ok; omega
            have HKA := Lib.hid hka
            obtain ⟨D, D', d, d', hxb, hob⟩ := M5.out.box
            have R5 := Lib.hid (hob.rd (by omega) (by omega))
            have X5 := Lib.hid hxb
            have g5 : w3.heap.size < w5.heap.size := hxb.lt
            have zw5 := M5.out.k.size
            obtain ⟨bh', cap', hv', _, _, hcells⟩ := row_at M5.out.held h0
            injection hv' with q1' q2' q3'
            injection q1' with q1'
            injection q1' with q1'
            subst q1'
            have hce := hcells kk hkk
            rw [hka] at hce
            have HC5 := Lib.hid hce
            clear hka hinv' hnot ea' eu' ea hh hl2 hxb hob hcells hce q2' q3' h1 h2
            have kki : (kk : Int) < (held.length : Int) := by omega
            go_upto_region 21 with fail
            go_cut [14, 15] (fun p q wx => Hid (HM w wx A c xs w.heap.size w3.heap.size ages used held gone (.slice (some ⟨bh, 0, none⟩) held.length f) (.slice Fg gone.length fg)) ∧ Hid (SBox w wx w3.heap.size p ages' used') ∧ q = .bool true)
            case first =>
              have c0 := X5.out.cell 0
              have c1 := X5.out.cell 1
              have c2 := HC5.out.1
              have c3 := HC5.out.2
              go_region_held3 (fun w' => w'.cell? ⟨w3.heap.size, 0, none⟩ = some (.slice D ages.length d) ∧ w'.cell? ⟨w3.heap.size, 1, none⟩ = some (.slice D' used.length d') ∧ w'.cell? ⟨bh, kk * 2, none⟩ = some (.int .i64 k) ∧ w'.cell? ⟨bh, kk * 2 + 1, none⟩ = some (.int .i64 a))
                (first | exact ⟨c0, c1, c2, c3⟩ | exact ⟨(X5.out.alloc _).drew.cell 0, (X5.out.alloc _).drew.cell 1, cell_kept (Kept.alloc0 _ _).drew c2, cell_kept (Kept.alloc0 _ _).drew c3⟩ | exact ⟨d0, d1, d2, d3⟩ | exact ⟨cell_kept (Kept.alloc0 _ _) d0, cell_kept (Kept.alloc0 _ _) d1, cell_kept (Kept.alloc0 _ _) d2, cell_kept (Kept.alloc0 _ _) d3⟩ | exact ⟨(cell_far xl d0), (cell_far xl d1), (cell_far xr d2), (cell_far xr d3)⟩)
                (first
                  | (go_at_call 15; refine (DY.at_ _ _ _ _ w5.heap.size _ (by exact Nat.le_refl _) (by exact R5.out.kept (Nat.le_refl _) (Kept.refl 0 0 _).drew (.inl (Nat.le_refl _)))).mono ?_; rintro e w6 ⟨G, G', g6, g6', rfl, ho, hk⟩; have k6 : Kept 0 0 w5 w6 := (Kept.refl 0 0 w5).drew.trans hk; have z6 := k6.size; have O6 : OwnS w6 w5.heap.size w6.heap.size G g6 G' g6' ages' used' := ho; have M6 := M5.out.step k6; clear hk ho; have d0 := cell_kept k6 c0; have d1 := cell_kept k6 c1; have d2 := cell_kept k6 c2; have d3 := cell_kept k6 c3)
                  | (go_at_call 15; refine (DY.at_ _ _ _ _ w5.heap.size _ (by simp) (by exact R5.out.kept (Nat.le_refl _) (Kept.alloc0 _ (.cells #[.slice none 0 0, .slice none 0 0] 31)).drew (.inl (Nat.le_refl _)))).mono ?_; rintro e w6 ⟨G, G', g6, g6', rfl, ho, hk⟩; have k6 : Kept 0 0 w5 w6 := (Kept.alloc0 _ _).drew.trans hk; have z6 := k6.size; have O6 : OwnS w6 (w5.heap.size + 1) w6.heap.size G g6 G' g6' ages' used' := (by simpa using ho); have Y6 : Blk w6 w5.heap.size 31 #[.slice none 0 0, .slice none 0 0] := (Blk.new w5 31 _).drew.kept hk (by omega); have M6 := M5.out.step k6; clear hk ho; have d0 := cell_kept k6 c0; have d1 := cell_kept k6 c1; have d2 := cell_kept k6 c2; have d3 := cell_kept k6 c3; have q0 := Y6.cell 0; have q1 := Y6.cell 1; have q2 := Y6.frozen 0; have q3 := Y6.frozen 1; have xl : w3.heap.size ≠ w5.heap.size := (by omega); have xr : bh ≠ w5.heap.size := (by have := World.block_lt_of_cell? w5 _ c2; simp at this; omega)))
              all_goals (go_wp2_with fail; go_meet)
              all_goals first
                | exact ⟨M6.step (Kept.alloc0 _ _), sbox_new O6 (by omega) (by omega), rfl⟩
                | exact ⟨M6.far Y6 (by omega) (by omega) (two_sets _ _ _ _), sbox_set Y6 O6 (by omega) (by omega), rfl⟩
            case rest =>
              obtain ⟨wd, rfl⟩ : ∃ wd : World, wd = wc := ⟨_, rfl⟩
              obtain ⟨M7, SB7, rfl⟩ := hcut
              obtain ⟨gx, D, D', d, d', rfl, hgx, hX, hO⟩ := SB7.out
              have X7 := Lib.hid hX
              have O7 := Lib.hid hO
              have R7 := Lib.hid (hO.rd (by omega) (by omega))
              have gx7 := hX.lt
              have zw7 := M7.out.k.size
              obtain ⟨bh', cap', hv', _, _, hcells⟩ := row_at M7.out.held h0
              injection hv' with q1' q2' q3'
              injection q1' with q1'
              injection q1' with q1'
              subst q1'
              have hce := hcells kk hkk
              rw [HKA.out] at hce
              have HC7 := Lib.hid hce
              clear M5 X5 R5 HC5 SB7 hX hO hcells hce q2' q3' zw5 g5
              go_upto_region 22 with fail
              go_cut [16, 17] (fun p q wx => Hid (HM w wx A c xs w.heap.size w3.heap.size ages used held gone (.slice (some ⟨bh, 0, none⟩) held.length f) (.slice Fg gone.length fg)) ∧ Hid (Kept 0 0 wd wx) ∧ q = .bool false)
              case first =>
                have c0 := X7.out.cell 0
                have c1 := X7.out.cell 1
                have c2 := HC7.out.1
                have c3 := HC7.out.2
                go_region_held3 (fun w' => w'.cell? ⟨gx, 0, none⟩ = some (.slice D ages'.length d) ∧ w'.cell? ⟨gx, 1, none⟩ = some (.slice D' used'.length d') ∧ w'.cell? ⟨bh, kk * 2, none⟩ = some (.int .i64 k) ∧ w'.cell? ⟨bh, kk * 2 + 1, none⟩ = some (.int .i64 a))
                  (first | exact ⟨c0, c1, c2, c3⟩ | exact ⟨(X7.out.alloc _).drew.cell 0, (X7.out.alloc _).drew.cell 1, cell_kept (Kept.alloc0 _ _).drew c2, cell_kept (Kept.alloc0 _ _).drew c3⟩ | exact ⟨d0, d1, d2, d3⟩ | exact ⟨cell_kept (Kept.alloc0 _ _) d0, cell_kept (Kept.alloc0 _ _) d1, cell_kept (Kept.alloc0 _ _) d2, cell_kept (Kept.alloc0 _ _) d3⟩ | exact ⟨(cell_far xl d0), (cell_far xl d1), (cell_far xr d2), (cell_far xr d3)⟩)
                  (first
                    | (go_at_call 15; refine (DN.at_ _ _ _ _ wd.heap.size _ (by exact Nat.le_refl _) (by exact R7.out.kept (Nat.le_refl _) (Kept.refl 0 0 _).drew (.inl (Nat.le_refl _)))).mono ?_; rintro e w6 ⟨G, G', g6, g6', rfl, ho, hk⟩; have k6 : Kept 0 0 wd w6 := (Kept.refl 0 0 wd).drew.trans hk; have z6 := k6.size; have M6 := M7.out.step k6; clear hk ho; have d0 := cell_kept k6 c0; have d1 := cell_kept k6 c1; have d2 := cell_kept k6 c2; have d3 := cell_kept k6 c3)
                    | (go_at_call 15; refine (DN.at_ _ _ _ _ wd.heap.size _ (by simp) (by exact R7.out.kept (Nat.le_refl _) (Kept.alloc0 _ (.cells #[.slice none 0 0, .slice none 0 0] 31)).drew (.inl (Nat.le_refl _)))).mono ?_; rintro e w6 ⟨G, G', g6, g6', rfl, ho, hk⟩; have k6 : Kept 0 0 wd w6 := (Kept.alloc0 _ _).drew.trans hk; have z6 := k6.size; have Y6 : Blk w6 wd.heap.size 31 #[.slice none 0 0, .slice none 0 0] := (Blk.new wd 31 _).drew.kept hk (by omega); have M6 := M7.out.step k6; clear hk ho; have d0 := cell_kept k6 c0; have d1 := cell_kept k6 c1; have d2 := cell_kept k6 c2; have d3 := cell_kept k6 c3; have q0 := Y6.cell 0; have q1 := Y6.cell 1; have q2 := Y6.frozen 0; have q3 := Y6.frozen 1; have xl : gx ≠ wd.heap.size := (by omega); have xr : bh ≠ wd.heap.size := (by have := World.block_lt_of_cell? wd _ c2; simp at this; omega)))
                all_goals (go_wp2_with fail; go_meet)
                all_goals first
                  | exact ⟨M6.step (Kept.alloc0 _ _), k6.alloc _, rfl⟩
                  | exact ⟨M6.far Y6 (by omega) (by omega) (two_sets _ _ _ _), k6.trans2 (two_sets _ _ _ _) (.inr (Nat.le_refl _)), rfl⟩
              case rest =>
                obtain ⟨we, rfl⟩ : ∃ we : World, we = wc := ⟨_, rfl⟩
                obtain ⟨M8, K8, rfl⟩ := hcut
                have z8 := K8.out.size
                have X8 := Lib.hid (X7.out.kept K8.out (by omega))
                have O8 := Lib.hid (show OwnS we w.heap.size wd.heap.size D d D' d' ages' used' from O7.out.kept K8.out (by omega))
                have HC8 := Lib.hid (And.intro (cell_kept K8.out HC7.out.1) (cell_kept K8.out HC7.out.2))
                clear M7 X7 O7 R7 HC7 K8
                obtain ⟨i0, hi, hz0, hz1, hz2⟩ := info_parts Try.info36
                have kT := Kept.alloc0 we (.cells #[.int .i64 k, .int .i64 a] 36)
                have MT := Lib.hid (M8.out.step kT)
                have BT := Lib.hid (Blk.new we 36 #[.int .i64 k, .int .i64 a])
                have XT := Lib.hid (X8.out.kept kT (by omega))
                have OT := Lib.hid (O8.out.kept kT (by omega))
                have zT := kT.size
                have gl8 := I.out.glen
                clear kT
                have c0 := HC8.out.1
                have c1 := HC8.out.2
                go_wp2_with (at_builtin; refine wpList_append_lies _ rfl _ _ 34 rfl w.heap.size 36 i0 (.agg #[.int .i64 0, .int .i64 0]) 2 16 Try.underlying34 hi hz0 hz1 hz2 rfl (by decide) (.slice Fg gone.length fg) gone.length (hcells gone) rfl (by exact MT.out.gone) ⟨we.heap.size, 0, none⟩ 1 1 [.int .i64 k, .int .i64 a] rfl rfl (by exact new_cells BT.out) (by exact hcells_one [((k : Int), a)]) (by omega) (by unfold maxLen; omega) (by omega) (by simp; omega) _ rfl ?_; intro b9 cap9 w9 hown hgrow hlie hlt9; have M9 := Lib.hid (MT.out.app_gone (gone' := gone ++ [((k : Int), a)]) hgrow (app_row hown) (app_lie hlie)); have O9 := Lib.hid (OT.out.grown MT.out.gone hgrow); have X9 := Lib.hid (blk_grown XT.out hgrow (row_ne MT.out.gone XT.out (by decide))); have z9 : we.heap.size ≤ w9.heap.size := Nat.le_trans zT hgrow.size; clear hown hgrow hlie)
                clear M8 X8 O8 HC8 MT BT XT OT c0 c1 HKA
                have zw9 := M9.out.k.size
                go_upto_region 26 with fail
                go_cut [7] (fun p wx => Hid (HM w wx A c xs w.heap.size w3.heap.size ages used (held.take kk ++ held.drop (kk + 1)) (gone ++ [((k : Int), a)]) p (.slice (some ⟨b9, 0, none⟩) (gone.length + 1) cap9)) ∧ Hid (Kept 0 0 w9 wx))
                case first =>
                  have kA : Kept 0 0 w9 (w9.alloc (.cells #[] 36)).drew := (Kept.alloc0 _ _).drew
                  have RA := row_kept M9.out.held kA
                  have OA : (w9.alloc (.cells #[] 36)).drew.ownsRow w.heap.size 36 2 (.slice (some ⟨w9.heap.size, 0, none⟩) 0 0) 0 [] := own_empty2 ((Blk.new w9 36 #[]).drew) zw9
                  have N1 := row_news RA 0 kk (by omega)
                  simp only [List.drop_zero, Nat.zero_mul] at N1
                  have zA : w.heap.size ≤ (w9.alloc (.cells #[] 36)).drew.heap.size := Nat.le_trans zw9 kA.size
                  have kf : kk ≤ f := by omega
                  have b0 : (0 : Int) ≤ (kk : Int) + 1 := by omega
                  have b1 : (kk : Int) + 1 ≤ (held.length : Int) := by omega
                  have b2 : (held.length : Int) ≤ (f : Int) := by omega
                  have b3 : IntKind.i64.wrap ((kk : Int) + 1) = (kk : Int) + 1 := by rw [IntKind.wrap_i64]; omega
                  have b4 : ((kk : Int) + 1).toNat = kk + 1 := by omega
                  rcases Nat.eq_or_lt_of_le (show kk + 1 ≤ f by omega) with hf | hf
                  · have b5 : f - (kk + 1) = 0 := by omega
                    have b6 : held.drop (kk + 1) = [] := List.drop_eq_nil_of_le (by omega)
                    go_region_held3 (fun _ => True) (trivial)
                      (first
                        | ((refine step_app rfl (.tmp 101) (.tmp 104) (by rfl) w.heap.size (.slice (some ⟨w9.heap.size, 0, none⟩) 0 0) [] (by rfl) (by exact OA) ⟨bh, 0, none⟩ kk f (held.take kk) (by rfl) (by simp; omega) (by exact N1) (by simp; omega) (by exact zA) ?_; intro v1 w10 hown1 hg1 hat1; have KB := app_keeps kA ⟨_, rfl, Nat.le_refl _⟩ hg1 hat1; clear hg1 hat1))
                        | ((refine step_app rfl (.tmp 105) (.tmp 109) (by rfl) w.heap.size v1 ([] ++ held.take kk) (by rfl) (by exact hown1) _ _ _ [] (by rfl) (by simp <;> omega) (by intro j u hu; simp [hcells] at hu) (by simp; omega) (by exact Nat.le_trans zw9 KB.1.size) ?_; intro v2 w11 hown2 hg2 hat2)))
                    go_wp2_with fail
                    go_meet
                    have KC := app_keeps KB.1 KB.2 hg2 hat2
                    rw [b6]
                    exact ⟨M9.out.held_new KC.1 (by exact hown2) KC.2, KC.1⟩
                  · have b5 : ¬ f = kk + 1 := by omega
                    have b6 : (held.drop (kk + 1)).take (held.length - (kk + 1)) = held.drop (kk + 1) := List.take_of_length_le (by simp)
                    go_region_held3 (fun _ => True) (trivial)
                      (first
                        | ((refine step_app rfl (.tmp 101) (.tmp 104) (by rfl) w.heap.size (.slice (some ⟨w9.heap.size, 0, none⟩) 0 0) [] (by rfl) (by exact OA) ⟨bh, 0, none⟩ kk f (held.take kk) (by rfl) (by simp; omega) (by exact N1) (by simp; omega) (by exact zA) ?_; intro v1 w10 hown1 hg1 hat1; have KB := app_keeps kA ⟨_, rfl, Nat.le_refl _⟩ hg1 hat1; clear hg1 hat1; have N2 := row_news (row_kept M9.out.held KB.1) (kk + 1) (held.length - (kk + 1)) (by omega); rw [b6] at N2))
                        | ((refine step_app rfl (.tmp 105) (.tmp 109) (by rfl) w.heap.size v1 ([] ++ held.take kk) (by rfl) (by exact hown1) ⟨bh, (kk + 1) * 2, none⟩ (held.length - (kk + 1)) (f - (kk + 1)) (held.drop (kk + 1)) (by rfl) (by simp) (by exact N2) (by simp; omega) (by exact Nat.le_trans zw9 KB.1.size) ?_; intro v2 w11 hown2 hg2 hat2)))
                    go_wp2_with fail
                    go_meet
                    have KC := app_keeps KB.1 KB.2 hg2 hat2
                    exact ⟨M9.out.held_new KC.1 (by exact hown2) KC.2, KC.1⟩
                case rest =>
                  obtain ⟨wg, rfl⟩ : ∃ wg : World, wg = wc := ⟨_, rfl⟩
                  obtain ⟨M10, K10⟩ := hcut
                  have z10 := K10.out.size
                  have X10 := Lib.hid (X9.out.kept K10.out (by omega))
                  have O10 := Lib.hid (O9.out.kept K10.out (by omega))
                  have gone10 : (gone ++ [((k : Int), a)]).length = gone.length + 1 := by simp
                  clear M9 X9 O9 K10
                  obtain ⟨P, P', p10, p10', hx10, _⟩ := M10.out.box
                  have d0 := X10.out.cell 0
                  have d1 := X10.out.cell 1
                  have d2 := hx10.cell 0
                  have d3 := hx10.cell 1
                  have d4 := hx10.frozen 0
                  have d5 := hx10.frozen 1
                  clear hx10
                  go_wp2_with fail
                  go_meet
                  exact ⟨ages', used', held.take kk ++ held.drop (kk + 1), gone ++ [((k : Int), a)], M10.out.put ⟨O10.out.i.wide (Nat.le_refl _) (by omega), O10.out.b.wide (Nat.le_refl _) (by omega)⟩, IN.out⟩
          · clear hb0
            obtain ⟨D, D', d, d', hxb, hob⟩ := MB.out.box
            have hl2 := slotsOk_len I.out.ok
            have RB := Lib.hid (hob.rd (by omega) (by omega))
            have HL2 := Lib.hid hl2
            clear hl2
            have XB := Lib.hid hxb
            have c0 := hxb.cell 0
            have c1 := hxb.cell 1
            clear hxb hob
            rcases first_free ages used ages.length with hn | ⟨k, h1, h2, h3⟩
            · have IF := I.out.full ht hn
              have IN := Lib.hid IF.1
              have hlen : ¬ held.length < n := by have := IF.2; omega
              have hlen' : decide (held.length < n) = false := by simpa using hlen
              clear IF hlen
              go_wp2_with fail
              with_reducible refine ((takeImpl_no _ _ I.out.ok hn).at_ _ _ _ _ wb.heap.size _ (Nat.le_refl _) (by exact RB.out)).mono ?_
              rintro e w6 ⟨G, G', g6, g6', rfl, ho, hk⟩
              have z6 := hk.size
              have O6 := Lib.hid ho
              have M6 := Lib.hid (MB.out.step hk)
              have zw := MB.out.k.size
              have X6 := Lib.hid (XB.out.kept hk (by omega))
              have n6 : w3.heap.size < w6.heap.size := X6.out.lt
              clear hk ho c0 c1
              have c0 := X6.out.cell 0
              have c1 := X6.out.cell 1
              have c2 := X6.out.frozen 0
              have c3 := X6.out.frozen 1
              go_wp2_with fail
              go_meet
              refine ⟨ages, used, held, gone, ?_, IN.out⟩
              exact (M6.out.put ⟨O6.out.i.wide (by omega) (Nat.le_refl _), O6.out.b.wide (by omega) (Nat.le_refl _)⟩).step ((Kept.alloc0 _ _).alloc _)
            · have h2u : k < used.length := by have := HL2.out; omega
              have IF := I.out.take h1 h2u h2
              have IN := Lib.hid IF.1
              have hlen := IF.2
              have hlen' : decide (held.length < n) = true := by simpa using hlen
              obtain ⟨used', hu'⟩ : ∃ used', used' = used.set k true := ⟨_, rfl⟩
              rw [← hu'] at IN
              have TD := takeImpl_yes ages used k used' I.out.ok h1 h2u h2 h3 hu'
              clear IF hu'
              obtain ⟨i0, hi, hz0, hz1, hz2⟩ := info_parts Try.info36
              go_wp2_with fail
              with_reducible refine (TD.at_ _ _ _ _ wb.heap.size _ (Nat.le_refl _) (by exact RB.out)).mono ?_
              rintro e w6 ⟨G, G', g6, g6', rfl, ho, hk⟩
              have z6 := hk.size
              have O6 := Lib.hid ho
              have M6 := Lib.hid (MB.out.step hk)
              have zw := MB.out.k.size
              clear hk ho c0 c1 TD
              go_upto_region 18 with fail
              obtain ⟨U, hU⟩ : ∃ U, U = (w6.alloc (.cells #[.slice G ages.length g6, .slice G' used'.length g6'] 31)).alloc (.cells #[.int .i64 k, .int .i64 ages[k]] 36) := ⟨_, rfl⟩
              have kU : Kept 0 0 w6 U := by rw [hU]; exact (Kept.alloc0 _ _).alloc _
              have XU : Hid (Blk U w6.heap.size 31 #[.slice G ages.length g6, .slice G' used'.length g6']) := by show Blk _ _ _ _; rw [hU]; exact (Blk.new _ _ _).alloc _
              have YU : Hid (Blk U (w6.heap.size + 1) 36 #[.int .i64 k, .int .i64 ages[k]]) := by show Blk _ _ _ _; rw [hU]; have := Blk.new (w6.alloc (.cells #[.slice G ages.length g6, .slice G' used'.length g6'] 31)) 36 #[.int .i64 k, .int .i64 ages[k]]; simpa using this
              rw [← hU]
              clear hU
              have zU := kU.size
              have MU := Lib.hid (M6.out.step kU)
              have OU : Hid (OwnS U w.heap.size U.heap.size G g6 G' g6' ages used') := ⟨(O6.out.i.kept kU (by omega)).wide (by omega) zU, (O6.out.b.kept kU (by omega)).wide (by omega) zU⟩
              clear kU M6 O6
              have kT := Kept.alloc0 U (.cells #[.int .i64 k, .int .i64 ages[k]] 36)
              have MT := Lib.hid (MU.out.step kT)
              have BT := Lib.hid (Blk.new U 36 #[.int .i64 k, .int .i64 ages[k]])
              have XT := Lib.hid (XU.out.kept kT (by omega))
              have OT : Hid (OwnS (U.alloc (.cells #[.int .i64 k, .int .i64 ages[k]] 36)) w.heap.size U.heap.size G g6 G' g6' ages used') := OU.out.kept kT (by omega)
              have zT := kT.size
              clear kT
              have c0 := YU.out.cell 0
              have c1 := YU.out.cell 1
              go_wp2_with (at_builtin; refine wpList_append_lies _ rfl _ _ 34 rfl w.heap.size 36 i0 (.agg #[.int .i64 0, .int .i64 0]) 2 16 Try.underlying34 hi hz0 hz1 hz2 rfl (by decide) (.slice F held.length f) held.length (hcells held) rfl (by exact MT.out.held) ⟨U.heap.size, 0, none⟩ 1 1 [.int .i64 k, .int .i64 ages[k]] rfl rfl (by exact new_cells BT.out) (by exact hcells_one [((k : Int), ages[k])]) (by omega) (by unfold maxLen; omega) (by omega) (by simp; omega) _ rfl ?_; intro b7 cap7 w7 hown hgrow hlie hlt7; have M7 := Lib.hid (MT.out.app_held (held' := held ++ [((k : Int), ages[k])]) hgrow (app_row hown) (app_lie hlie)); have O7 := Lib.hid (OT.out.grown MT.out.held hgrow); have X7 := Lib.hid (blk_grown XT.out hgrow (row_ne MT.out.held XT.out (by decide))); have z7 : U.heap.size ≤ w7.heap.size := Nat.le_trans zT hgrow.size; clear hown hgrow hlie; obtain ⟨P, P', p7, p7', hx7, _⟩ := M7.out.box; have d0 := X7.out.cell 0; have d1 := X7.out.cell 1; have d2 := hx7.cell 0; have d3 := hx7.cell 1; have d4 := hx7.frozen 0; have d5 := hx7.frozen 1; clear hx7)
              go_meet
              exact ⟨ages, used', held ++ [((k : Int), ages[k])], gone, M7.out.put ⟨O7.out.i.wide (Nat.le_refl _) z7, O7.out.b.wide (Nat.le_refl _) z7⟩, IN.out⟩
        case rest =>
          obtain ⟨wf, rfl⟩ : ∃ wf : World, wf = wc := ⟨_, rfl⟩
          obtain ⟨ages', used', held', gone', hm, hinv⟩ := hcut.out
          clear hcut
          have hl1' : held'.length ≤ 6 := hinv.len_le (by omega)
          have hgl := hinv.glen
          obtain ⟨E, e, rfl⟩ := row_form hm.held
          obtain ⟨Eg, eg, rfl⟩ := row_form hm.gone
          have MF := Lib.hid hm
          have IF := Lib.hid hinv
          clear hm hinv MB I hb0
          obtain ⟨D, D', d, d', hxb, hob⟩ := MF.out.box
          have hl2 := slotsOk_len IF.out.ok
          have RF := Lib.hid (hob.rd (by omega) (by omega))
          have c0 := hxb.cell 0
          have c1 := hxb.cell 1
          have hus : usedIn ages' used' = (held'.length : Int) := by rw [usedIn_ok IF.out.ok]; exact IF.out.cnt
          clear hxb hob hl2
          go_wp2_with fail
          with_reducible refine (usedImpl_any _ _ _ _ _ _ wf.heap.size _ (by exact Nat.le_refl _) (by exact RF.out)).mono ?_
          rintro _ wh ⟨rfl, hk⟩
          rw [hus]
          have MH := Lib.hid (MF.out.step hk)
          clear hk hus c0 c1 MF RF
          go_wp2_with fail
          go_loopw [18] (fun i wr => ∃ m : Nat, m ≤ held'.length ∧ i = .int .i64 m ∧ Hid (Kept 0 0 wh wr)) (fun i _ => held'.length - (intOf i).toNat)
          case atStart => exact ⟨0, by omega, rfl, Kept.refl _ _ _⟩
          case round =>
            obtain ⟨m, hm, rfl, KM⟩ := hrel
            have MM := Lib.hid (MH.out.step KM.out)
            by_cases hlm : m < held'.length
            · have mi : (m : Int) < (held'.length : Int) := by omega
              have mi' : decide (m < held'.length) = true := by simpa using hlm
              obtain ⟨D, D', d, d', hxb, hob⟩ := MM.out.box
              have hl2 := slotsOk_len IF.out.ok
              have RM := Lib.hid (hob.rd (by omega) (by omega))
              obtain ⟨bh, caph, hvh, hbh, hch, hcells⟩ := row_at MM.out.held (by omega)
              injection hvh with e1 e2 e3
              subst e1 e3
              have HC := Lib.hid hcells
              have CO := Lib.hid (holds_quiet RM.out d d' (IF.out.hold _ (List.getElem_mem hlm)))
              have k0 := cell_regrown (hxb.cell 0)
              have k1 := cell_regrown (hxb.cell 1)
              have k2 := cell_regrown (hcells m hlm).1
              have k3 := cell_regrown (hcells m hlm).2
              clear hxb hob hl2 hcells e2
              go_upto_region 33 with fail
              refine wp_region_quiet_below (by kernel_rfl) (by kernel_rfl) ?_
              repeat (first | go_big_quiet_step (exact CO.out _ _) | quiet_step (exact CO.out _ _))
              refine wpQuiet_nil ?_
              intro _ hw'
              obtain ⟨⟨dq, osq⟩, hw''⟩ := hw'
              subst hw''
              clear k0 k1 k2 k3 CO
              obtain ⟨wn, hwn⟩ : ∃ wn, wn = Go.Sort.grow (redrawn wr dq) osq := ⟨_, rfl⟩
              have KN : Hid (Kept 0 0 wr wn) := by show Kept _ _ _ _; rw [hwn]; exact Kept.regrown wr dq osq
              rw [← hwn]
              clear hwn
              have KNN := Lib.hid (KM.out.trans KN.out)
              have HN := Lib.hid (fun i hi => cell_kept KN.out (HC.out i hi).1)
              clear HC KN MM
              go_wp2_with fail
              go_loopw [19] (fun j wx => ∃ q : Nat, q ≤ m ∧ j = .int .i64 q ∧ Hid (Kept 0 0 wn wx)) (fun j _ => m - (intOf j).toNat)
              case atStart => exact ⟨0, by omega, rfl, Kept.refl _ _ _⟩
              case round =>
                obtain ⟨q, hq, rfl, KQ⟩ := hrel
                by_cases hqm : q < m
                · have qi : (q : Int) < (m : Int) := by omega
                  have qi' : decide (q < m) = true := by simpa using hqm
                  have ql : (q : Int) < (held'.length : Int) := by omega
                  have hq1 : q < held'.length := by omega
                  have hne : (held'[q].1 == held'[m].1) = false := beq_eq_false_iff_ne.2 (List.pairwise_iff_getElem.1 IF.out.dist q m hq1 hlm hqm)
                  have k0 := cell_regrown (cell_kept KQ.out (HN.out q hq1))
                  have k2 := cell_regrown (cell_kept KQ.out (HN.out m hlm))
                  go_upto_region 38 with fail
                  refine wp_region_quiet_below (by kernel_rfl) (by kernel_rfl) ?_
                  repeat (first | go_big_quiet_step (fail) | quiet_step (fail))
                  refine wpQuiet_nil ?_
                  intro _ hw'
                  obtain ⟨⟨dq, osq⟩, hw''⟩ := hw'
                  subst hw''
                  clear k0 k2
                  go_wp2_with fail
                  go_roundw
                  case rel => exact ⟨q + 1, by omega, by simp, Lib.hid (KQ.out.trans (Kept.regrown _ _ _))⟩
                  case measure => simp [intOf]; omega
                · have qi' : decide (q < m) = false := by simpa using hqm
                  clear hqm
                  go_wp2_with fail
                  go_roundw
                  case rel => exact ⟨m + 1, by omega, by simp, Lib.hid (KNN.out.trans KQ.out)⟩
                  case measure => simp [intOf]; omega
            · have hme : m = held'.length := by omega
              have mi' : decide (m < held'.length) = false := by simpa using hlm
              clear hlm
              obtain ⟨wm, rfl⟩ : ∃ wm : World, wm = wr := ⟨_, rfl⟩
              go_wp2_with fail
              go_loopw [20] (fun i wx => ∃ q : Nat, q ≤ gone'.length ∧ i = .int .i64 q ∧ Hid (Kept 0 0 wm wx)) (fun i _ => gone'.length - (intOf i).toNat)
              case atStart => exact ⟨0, by omega, rfl, Kept.refl _ _ _⟩
              case round =>
                obtain ⟨q, hq, rfl, KQ⟩ := hrel
                have MQ := Lib.hid (MM.out.step KQ.out)
                clear MM MH KM
                by_cases hql : q < gone'.length
                · have qi : (q : Int) < (gone'.length : Int) := by omega
                  have qi' : decide (q < gone'.length) = true := by simpa using hql
                  obtain ⟨D, D', d, d', hxb, hob⟩ := MQ.out.box
                  have hl2 := slotsOk_len IF.out.ok
                  have RM := Lib.hid (hob.rd (by omega) (by omega))
                  obtain ⟨bh, caph, hvh, hbh, hch, hcells⟩ := row_at MQ.out.gone (by omega)
                  injection hvh with e1 e2 e3
                  subst e1 e3
                  have CO := Lib.hid (holds_quiet RM.out d d' (IF.out.past_not _ (List.getElem_mem hql)))
                  have k0 := cell_regrown (hxb.cell 0)
                  have k1 := cell_regrown (hxb.cell 1)
                  have k2 := cell_regrown (hcells q hql).1
                  have k3 := cell_regrown (hcells q hql).2
                  clear hxb hob hl2 hcells e2
                  go_upto_region 43 with fail
                  refine wp_region_quiet_below (by kernel_rfl) (by kernel_rfl) ?_
                  repeat (first | go_big_quiet_step (exact CO.out _ _) | quiet_step (exact CO.out _ _))
                  refine wpQuiet_nil ?_
                  intro _ hw'
                  obtain ⟨⟨dq, osq⟩, hw''⟩ := hw'
                  subst hw''
                  clear k0 k1 k2 k3 CO
                  go_wp2_with fail
                  go_roundw
                  case rel => exact ⟨q + 1, by omega, by simp, Lib.hid (KQ.out.trans (Kept.regrown _ _ _))⟩
                  case measure => simp [intOf]; omega
                · have qi' : decide (q < gone'.length) = false := by simpa using hql
                  clear hql
                  go_wp2_with fail
                  go_roundw
                  case rel => exact ⟨t + 1, by omega, by simp, ⟨ages', used', held', gone', MQ.out, IF.out⟩⟩
                  case measure => simp [intOf]; omega
    · have ht' : t = 20 := by omega
      subst ht'
      obtain ⟨D, D', d, d', hxb, hob⟩ := M.out.box
      have hl2 := slotsOk_len I.out.ok
      have RF := Lib.hid (hob.rd (by omega) (by omega))
      have c0 := hxb.cell 0
      have c1 := hxb.cell 1
      clear hxb hob hl2
      go_wp2_with fail
      with_reducible refine (okImpl_any _ _ _ _ _ _ wr.heap.size _ (by exact Nat.le_refl _) (by exact RF.out)).mono ?_
      rintro e w5 ⟨rfl, hk⟩
      rw [I.out.ok]
      go_wp2_with fail
      go_ret
      exact ⟨rfl, M.out.k.trans hk⟩
end Go.Proofs.Ytgminepgldfdfaa
