/- The law of firing returns true for every code of at most 4096 bytes, under the contracts of the program's functions of timers; condition: the code can be read. -/
import Derived.Test.YtgphakpcenlplaaRf
import Derived.Test.YtgphakpcenlplaaVa
import Derived.Test.YtgphakpcenlplaaDr
namespace Go.Proofs.Ytgphakpcenlplaa
open Go.RowKit Go.Sort

def DoesOk (f : FuncId) : Prop := ∀ (T : Tms) (v : Value) (w : World), RdM w w.heap.size v T → Calls Try.prog f #[v] w fun e w' => e = .returned (.bool (timersOkB T)) ∧ Kept 0 0 w w'
def DoesNx (f : FuncId) : Prop := ∀ (T : Tms) (v : Value) (w : World), RdM w w.heap.size v T → Calls Try.prog f #[v] w fun e w' => e = .returned (.int .i64 (nextDueI T)) ∧ Kept 0 0 w w'
theorem DoesOk.at_ {f : FuncId} (h : DoesOk f) (T : Tms) (v : Value) (w : World) (hr : RdM w w.heap.size v T) : Calls Try.prog f #[v] w fun e w' => e = .returned (.bool (timersOkB T)) ∧ Kept 0 0 w w' := h T v w hr
theorem DoesNx.at_ {f : FuncId} (h : DoesNx f) (T : Tms) (v : Value) (w : World) (hr : RdM w w.heap.size v T) : Calls Try.prog f #[v] w fun e w' => e = .returned (.int .i64 (nextDueI T)) ∧ Kept 0 0 w w' := h T v w hr

/-- Every timer that is armed comes behind the one that was fired last. -/
def Behind (dues : List Int) (lv : List Bool) (ls ld : Int) : Prop := ∀ j (hj : j < dues.length) (hj' : j < lv.length), lv[j] = true → ld < dues[j] ∨ (ld = dues[j] ∧ ls < j)
/-- No timer that is armed is due at a time. -/
def Later_ (dues : List Int) (lv : List Bool) (t : Int) : Prop := ∀ j (hj : j < dues.length) (hj' : j < lv.length), lv[j] = true → t < dues[j]
theorem set_live {lv : List Bool} {k j : Nat} (hj : j < (lv.set k false).length) (h : (lv.set k false)[j] = true) : ∃ hj' : j < lv.length, j ≠ k ∧ lv[j] = true := by
  have hj' : j < lv.length := by simpa using hj
  rw [List.getElem_set] at h
  split at h
  · cases h
  · rename_i hne
    exact ⟨hj', fun e => hne e.symm, h⟩
def isT : Option Value → Bool
  | some (.bool b) => b
  | _ => false
/-- How many cells of a row of booleans say yes. -/
def yes (w : World) (E : Option Addr) (n : Nat) : Nat := match E with
  | some ad => (List.range n).countP fun i => isT (w.cell? ⟨ad.block, i, none⟩)
  | none => 0
theorem countP_less {α : Type} {p q : α → Bool} {l : List α} (h : ∀ x ∈ l, p x = true → q x = true) {x : α} (hx : x ∈ l) (hq : q x = true) (hp : p x = false) : l.countP p < l.countP q := by
  induction l with
  | nil => cases hx
  | cons y r ih =>
    have hm : r.countP p ≤ r.countP q := List.countP_mono_left (fun z hz => h z (List.mem_cons_of_mem _ hz))
    rcases List.mem_cons.1 hx with rfl | hx
    · rw [List.countP_cons_of_neg (by simp [hp]), List.countP_cons_of_pos hq]; omega
    · have := ih (fun z hz => h z (List.mem_cons_of_mem _ hz)) hx
      cases hy : p y
      · rw [List.countP_cons_of_neg (by simp [hy])]
        have : r.countP q ≤ (y :: r).countP q := by rw [List.countP_cons]; omega
        omega
      · rw [List.countP_cons_of_pos hy, List.countP_cons_of_pos (h y (by simp) hy)]; omega
theorem yes_eq {w wr : World} {base c bt d1 d2 d e : Nat} {A D1 D2 D E : Option Addr} {xs : List Int} {T : Tms} {dues : List Int} {lv : List Bool} (h : FireM w wr base A c xs bt D1 d1 D2 d2 T D d dues E e lv) : yes wr E lv.length = (List.range lv.length).countP fun i => lv.getD i false := by
  cases E with
  | none =>
    have : lv.length = 0 := by
      rcases (OwnZ.of_row h.live).form with ⟨_, h0, _⟩ | ⟨b, h1, _⟩
      · exact h0
      · cases h1
    simp [yes, this]
  | some ad =>
    refine List.countP_congr fun i hi => ?_
    have hi' : i < lv.length := by simpa using hi
    obtain ⟨b, e1, e2, _⟩ := h.cellLive hi'
    injection e1 with e1
    subst e1
    simp only [e2, isT]
    simp [List.getD, List.getElem?_eq_getElem hi']
theorem yes_less {w w' wr wr' : World} {base c bt d1 d2 d e base' c' bt' d1' d2' d' e' : Nat} {A D1 D2 D E A' D1' D2' D' : Option Addr} {xs xs' : List Int} {T T' : Tms} {dues dues' : List Int} {lv : List Bool} {k : Nat} (h : FireM w wr base A c xs bt D1 d1 D2 d2 T D d dues E e lv)
    (h' : FireM w' wr' base' A' c' xs' bt' D1' d1' D2' d2' T' D' d' dues' E e' (lv.set k false)) (hk : k < lv.length) (hl : lv[k] = true) : yes wr' E lv.length < yes wr E lv.length := by
  have a := yes_eq h
  have b := yes_eq h'
  rw [List.length_set] at b
  rw [a, b]
  refine countP_less (fun i hi hp => ?_) (x := k) (by simpa using hk) (by simp [List.getD, List.getElem?_eq_getElem hk, hl]) (by simp [List.getD, hk])
  have hi' : i < lv.length := by simpa using hi
  have hs : i < (lv.set k false).length := by simpa using hi'
  simp only [List.getD, List.getElem?_eq_getElem hs, Option.getD_some] at hp
  obtain ⟨_, _, h3⟩ := set_live hs hp
  simp [List.getD, List.getElem?_eq_getElem hi', h3]
theorem Fir.empty {T : Tms} {dues : List Int} {lv : List Bool} (h : Fir T dues lv) (hn : ∀ j (_ : j < dues.length) (hj' : j < lv.length), lv[j] = false) : T.heap = [] := by
  cases hh : T.heap with
  | nil => rfl
  | cons y r =>
    exfalso
    obtain ⟨x, hx, f1, f2, f3⟩ := h.ok.armed y (by rw [hh]; simp)
    obtain ⟨i, hi, rfl⟩ := List.getElem_of_mem hx
    have hl := h.len
    have hl' := h.len'
    have e := h.each i hi (by omega) (by omega)
    rw [e] at f2
    have := hn i (by omega) (by omega)
    simp [this] at f2

set_option maxHeartbeats 16000000 in
set_option maxRecDepth 100000 in
theorem lawFiring_small (hA : DoesMA 8 armL armI) (hS : DoesMI 9 stopL stopB) (hF : DoesMF 10 firedL firedX firedB) (hO : DoesOk 11) (hN : DoesNx 12)
    (xs : List Int) (A : Option Addr) (c : Nat) (w : World) (h : Rd (Value.int .u8) w w.heap.size A xs) (hx : ∀ x ∈ xs, 0 ≤ x ∧ x ≤ 255) (hl : xs.length ≤ 4096) :
    Calls Try.prog 3 #[.slice A xs.length c] w fun e w' => e = .returned (.bool true) ∧ Kept 0 0 w w' := by
  have hm := h.1
  have hbig : decide (4096 < xs.length) = false := by simpa using hl
  have H := Lib.hid h
  have HX := Lib.hid hx
  have IA := Lib.hid hA
  have IS := Lib.hid hS
  have IF := Lib.hid hF
  have IO := Lib.hid hO
  have IN := Lib.hid hN
  have HTi := Lib.hid iSlice
  have HTb := Lib.hid bSlice
  clear h hx hA hS hF hO hN
  go_enter Try.func3, Try.ntmps3
  go_wp2_with fail
  with_reducible refine (big_any _ _ _ _ hm).mono ?_
  rintro e w' ⟨rfl, rfl⟩
  rw [hbig]
  clear hbig
  go_wp2_with fail
  with_reducible refine (rollD xs 4 A c w H.out HX.out hl).mono ?_
  rintro e w1 ⟨rfl, hd, hk⟩
  obtain ⟨V, hV⟩ : ∃ V, V = ((w1.alloc (.cells #[.slice none 0 0, .slice none 0 0, .int .i64 0] 30)).alloc (.cells #[] 2)).alloc (.cells #[] 4) := ⟨_, rfl⟩
  have kV : Kept 0 0 w1 V := by rw [hV]; exact ((Kept.alloc0 _ _).alloc _).alloc _
  have sV : V.heap.size = w1.heap.size + 3 := by rw [hV]; simp
  have M0 : Hid (FireM w V w1.heap.size A c xs w1.heap.size none 0 none 0 zeroT (some ⟨w1.heap.size + 1, 0, none⟩) 0 [] (some ⟨w1.heap.size + 2, 0, none⟩) 0 []) := by
    refine ⟨hd.kept kV (.inl (Nat.le_refl _)), ?_, zero_own _ _ _, ?_, ?_, hk.trans kV, hd.lt, Nat.le_refl _, by omega⟩
    · rw [hV]; exact ((Blk.new _ _ _).alloc _).alloc _
    · refine own_empty (e := 2) ?_ (by omega)
      rw [hV]
      have := Blk.new (w1.alloc (.cells #[.slice none 0 0, .slice none 0 0, .int .i64 0] 30)) 2 #[]
      rw [World.size_alloc] at this
      exact this.alloc _
    · refine own_empty (e := 4) ?_ (by omega)
      rw [hV]
      have := Blk.new ((w1.alloc (.cells #[.slice none 0 0, .slice none 0 0, .int .i64 0] 30)).alloc (.cells #[] 2)) 4 #[]
      simpa using this
  have HV := Lib.hid hV
  have g0 := hd.lt
  clear hd hk kV hV H HX hm hl
  go_upto_region 7 with fail
  rw [← HV.out]
  clear HV
  go_wp2_with fail
  with_reducible refine (belowD _ _ _ _ _ _ M0.out.dice (by omega) (by omega)).mono ?_
  rintro e w2 ⟨r, rfl, hr, hd, hk⟩
  have M1 := Lib.hid (M0.out.draw hd hk)
  clear hd hk M0
  go_wp2_with fail
  go_loopw [5, 6, 7] (fun p q i wr => ∃ (n : Int) (T : Tms) (dues : List Int) (lives : List Bool) (D E D1 D2 : Option Addr) (d e d1 d2 : Nat), i = .int .i64 n ∧ -1 ≤ n ∧ dues.length + n ≤ 11 ∧ p = .slice D dues.length d ∧ q = .slice E lives.length e ∧ Hid (Fir T dues lives) ∧ Hid (∀ x ∈ dues, 0 ≤ x ∧ x ≤ 8) ∧ Hid (FireM w wr w1.heap.size A c xs w1.heap.size D1 d1 D2 d2 T D d dues E e lives)) (fun _ _ i _ => (intOf i + 1).toNat)
  case atStart => exact ⟨r, zeroT, [], [], _, _, _, _, _, _, _, _, rfl, by omega, by simp; omega, rfl, rfl, Lib.hid Fir.zero, Lib.hid (by simp), M1⟩
  case round =>
    clear M1
    obtain ⟨n, T, dues, lives, D, E, D1, D2, d, e, d1, d2, rfl, hn0, hn1, rfl, rfl, FI, SM, MS⟩ := hrel
    by_cases hn : 0 ≤ n
    · go_wp2_with fail
      with_reducible refine (belowD _ _ _ _ _ _ MS.out.dice (by omega) (by omega)).mono ?_
      rintro e w3 ⟨v, rfl, hv, hd, hk⟩
      have M3 := Lib.hid (MS.out.draw hd hk)
      clear hd hk MS
      have LL := Lib.hid FI.out.len'
      obtain ⟨N, hN⟩ : ∃ N, N = armL T v 2 3 := ⟨_, rfl⟩
      have FA := FI.out.arm (by omega) (v : Int)
      rw [← hN] at FA
      have CA := Lib.hid (IA.out.at_ T v 2 3 _ w3 (M3.out.own.rdW (Nat.le_refl _)))
      rw [← hN, FA.1] at CA
      have FN := Lib.hid FA.2
      have nl : N.list.length = dues.length + 1 := by have := FA.2.len; simpa using this
      have b0 := M3.out.box.cell 0
      have b1 := M3.out.box.cell 1
      have b2 := M3.out.box.cell 2
      clear hN FA
      go_wp2_with fail
      with_reducible refine CA.out.mono ?_
      rintro e' w4 ⟨_, rfl, ⟨_, _, rfl, ⟨D3, d3, rfl, oa⟩, ⟨D4, d4, rfl, ob⟩⟩, hk⟩
      have ON : OwnM w4 w3.heap.size w4.heap.size (.agg #[.slice D3 N.heap.length d3, .slice D4 N.list.length d4, .int .i64 N.next]) N := ⟨_, _, rfl, ⟨D3, d3, rfl, oa⟩, ⟨D4, d4, rfl, ob⟩⟩
      obtain ⟨V4, hV4⟩ : ∃ V4, V4 = w4.alloc (.cells #[.slice D3 N.heap.length d3, .slice D4 N.list.length d4, .int .i64 N.next] 30) := ⟨_, rfl⟩
      have M4 : Hid (FireM w V4 w1.heap.size A c xs w1.heap.size D1 d1 D2 d2 T D d dues E e lives) := by rw [hV4]; exact M3.out.same (hk.alloc _)
      have SX : Hid (Side V4 w4.heap.size w3.heap.size w4.heap.size D3 d3 D4 d4 N) := by rw [hV4]; exact Side.new ON
      have z3 := M3.out.hz
      have z4 := hk.size
      have zV : w4.heap.size + 1 ≤ V4.heap.size := by rw [hV4]; simp
      have q1 : ((dues.length : Int) != (dues.length : Int)) = false := by simp
      have q2 : ((N.list.length : Int) != (dues.length : Int) + 1) = false := by rw [nl]; simp
      have x1 := SX.out.box.cell 1
      have HV4 := Lib.hid hV4
      rw [hV4] at x1
      clear oa ob hk ON hV4 M3 CA b0 b1 b2 nl
      go_upto_region 14 with fail
      rw [← HV4.out]
      clear HV4 x1 q1 q2
      go_upto_region 15 with (at_builtin; go_must (refine wpList_app (R := iR) rfl (.tmp 54) (.tmp 56) rfl HTi.out w1.heap.size D d dues rfl (row_kept M4.out.due (Kept.alloc0 _ _)) _ (some ⟨V4.heap.size, 0, none⟩) 1 [(v : Int)] rfl (lit_i V4 v) (by simp [maxLen]; omega) (by simp; omega) (by simp; omega) ?_); intro D5 d5 w5 hown hgrow hat)
      have o5 : Only 2 w1.heap.size (V4.alloc (.cells #[.int .i64 (v : Int)] 2)) w5 := only_app (row_kept M4.out.due (Kept.alloc0 _ _)) hgrow
      have M5 := Lib.hid ((M4.out.same (Kept.alloc0 V4 (.cells #[.int .i64 (v : Int)] 2))).appDue hgrow hown)
      have S5 := Lib.hid ((SX.out.same (Kept.alloc0 V4 (.cells #[.int .i64 (v : Int)] 2))).only o5 (by decide) (by decide) (by decide))
      have z5 := o5.size
      rw [World.size_alloc] at z5
      clear hown hgrow hat o5 M4 SX
      obtain ⟨dues', hdu⟩ : ∃ dues', dues' = dues ++ [(v : Int)] := ⟨_, rfl⟩
      have dl : dues'.length = dues.length + 1 := by rw [hdu]; simp
      rw [← hdu] at M5 FN
      have SM' : Hid (∀ x ∈ dues', 0 ≤ x ∧ x ≤ 8) := by
        show ∀ x ∈ dues', _
        intro x hx
        rw [hdu] at hx
        rcases List.mem_append.1 hx with hx | hx
        · exact SM.out x hx
        · simp at hx; omega
      rw [show dues.length + 1 = dues'.length from dl.symm]
      have DL := Lib.hid dl
      clear hdu SM dl
      have LB : Hid (lives.length ≤ 11) := by show _ ≤ _; have := LL.out; omega
      have lb := LB.out
      go_upto_region 16 with (at_builtin; refine wpList_app (R := bR) rfl (.tmp 58) (.tmp 59) rfl HTb.out w1.heap.size E e lives rfl (row_kept M5.out.live (Kept.alloc0 _ _)) _ (some ⟨w5.heap.size, 0, none⟩) 1 [true] rfl (lit_b w5 true) (by simp [maxLen]; omega) (by simp; omega) (by simp; omega) ?_; intro E6 e6 w6 hown hgrow hat)
      have o6 : Only 4 w1.heap.size (w5.alloc (.cells #[.bool true] 4)) w6 := only_app (row_kept M5.out.live (Kept.alloc0 _ _)) hgrow
      have M6 := Lib.hid ((M5.out.same (Kept.alloc0 w5 (.cells #[.bool true] 4))).appLive hgrow hown)
      have S6 := Lib.hid ((S5.out.same (Kept.alloc0 w5 (.cells #[.bool true] 4))).only o6 (by decide) (by decide) (by decide))
      have z6 := o6.size
      rw [World.size_alloc] at z6
      clear hown hgrow hat o6 M5 S5
      obtain ⟨lives', hlu⟩ : ∃ lives', lives' = lives ++ [true] := ⟨_, rfl⟩
      have ll : lives'.length = lives.length + 1 := by rw [hlu]; simp
      rw [← hlu] at M6 FN
      rw [show lives.length + 1 = lives'.length from ll.symm]
      clear hlu ll lb LB LL
      -- t = x
      have x0 := S6.out.box.cell 0
      have x1 := S6.out.box.cell 1
      have x2 := S6.out.box.cell 2
      have t0 := M6.out.box.cell 0
      have t1 := M6.out.box.cell 1
      have t2 := M6.out.box.cell 2
      have f0 := M6.out.box.frozen 0
      have f1 := M6.out.box.frozen 1
      have f2 := M6.out.box.frozen 2
      have M7 := Lib.hid (M6.out.put (by omega) (by omega) S6.out.own)
      obtain ⟨V7, hV7⟩ : ∃ V7, V7 = ((w6.setCell ⟨w1.heap.size, 0, none⟩ (.slice D3 N.heap.length d3)).setCell ⟨w1.heap.size, 1, none⟩ (.slice D4 N.list.length d4)).setCell ⟨w1.heap.size, 2, none⟩ (.int .i64 N.next) := ⟨_, rfl⟩
      rw [← hV7] at M7
      have HV7 := Lib.hid hV7
      clear hV7
      go_upto_region 17 with fail
      rw [← HV7.out]
      clear HV7 x0 x1 x2 t0 t1 t2 f0 f1 f2 S6 M6
      go_wp2_with fail
      with_reducible refine (belowD _ _ _ _ _ _ M7.out.dice (by omega) (by omega)).mono ?_
      rintro e' w8 ⟨r8, rfl, hr8, hd, hk⟩
      have M8 := Lib.hid (M7.out.draw hd hk)
      clear hd hk M7
      by_cases h8 : r8 = 0
      · subst h8
        have dl1 : 1 ≤ dues'.length := by have := DL.out; omega
        have dl2 : dues'.length ≤ 12 := by have := DL.out; omega
        go_wp2_with fail
        with_reducible refine (belowD _ _ _ _ _ _ M8.out.dice (by omega) (by omega)).mono ?_
        rintro e' w9 ⟨k, rfl, hk9, hd, hk⟩
        have M9 := Lib.hid (M8.out.draw hd hk)
        clear hd hk M8
        have hkd : k < dues'.length := by omega
        have hkl : k < lives'.length := by have := FN.out.len'; omega
        obtain ⟨fs1, fs2⟩ := FN.out.stop hkd hkl
        obtain ⟨N2, hN2⟩ : ∃ N2, N2 = stopL N k := ⟨_, rfl⟩
        have CS := Lib.hid (IS.out.at_ N k _ w9 (M9.out.own.rdW (Nat.le_refl _)))
        rw [← hN2, fs1] at CS
        rw [← hN2] at fs2
        have FN2 := Lib.hid fs2
        have b0 := M9.out.box.cell 0
        have b1 := M9.out.box.cell 1
        have b2 := M9.out.box.cell 2
        clear hN2 fs1 fs2 FN
        go_wp2_with fail
        with_reducible refine CS.out.mono ?_
        rintro e' w10 ⟨_, rfl, ⟨_, _, rfl, ⟨D7, d7, rfl, oa⟩, ⟨D8, d8, rfl, ob⟩⟩, hk⟩
        have ON : OwnM w10 w9.heap.size w10.heap.size (.agg #[.slice D7 N2.heap.length d7, .slice D8 N2.list.length d8, .int .i64 N2.next]) N2 := ⟨_, _, rfl, ⟨D7, d7, rfl, oa⟩, ⟨D8, d8, rfl, ob⟩⟩
        obtain ⟨V10, hV10⟩ : ∃ V10, V10 = w10.alloc (.cells #[.slice D7 N2.heap.length d7, .slice D8 N2.list.length d8, .int .i64 N2.next] 30) := ⟨_, rfl⟩
        have M10 : Hid (FireM w V10 w1.heap.size A c xs w1.heap.size D3 d3 D4 d4 N D5 d5 dues' E6 e6 lives') := by rw [hV10]; exact M9.out.same (hk.alloc _)
        have S10 : Hid (Side V10 w10.heap.size w9.heap.size w10.heap.size D7 d7 D8 d8 N2) := by rw [hV10]; exact Side.new ON
        have z9 := M9.out.hz
        have z10 := hk.size
        have zV10 : w10.heap.size + 1 ≤ V10.heap.size := by rw [hV10]; simp
        have HV10 := Lib.hid hV10
        clear oa ob hk ON hV10 M9 CS b0 b1 b2
        go_upto_region 20 with fail
        rw [← HV10.out]
        clear HV10
        obtain ⟨bE, rfl, cl, fl⟩ := M10.out.cellLive hkl
        have q3 : (lives'[k] != lives'[k]) = false := by simp
        have M11 := Lib.hid (M10.out.dead (k := k) rfl)
        have o11 : Hid (Only 4 w1.heap.size V10 (V10.setCell ⟨bE, k, none⟩ (.bool false))) := by
          obtain ⟨cs, hb⟩ := row_blk M10.out.live (b := bE) rfl
          exact only_set hb (own_row_lo M10.out.live bE rfl).1 _
        have S11 := Lib.hid (S10.out.only o11.out (by decide) (by decide) (by decide))
        have z11 := o11.out.size
        obtain ⟨V11, hV11⟩ : ∃ V11, V11 = V10.setCell ⟨bE, k, none⟩ (.bool false) := ⟨_, rfl⟩
        rw [← hV11] at M11 S11 z11
        have HV11 := Lib.hid hV11
        clear hV11 o11 M10 S10
        go_upto_region 23 with fail
        rw [← HV11.out]
        clear HV11 cl fl q3
        have x0 := S11.out.box.cell 0
        have x1 := S11.out.box.cell 1
        have x2 := S11.out.box.cell 2
        have t0 := M11.out.box.cell 0
        have t1 := M11.out.box.cell 1
        have t2 := M11.out.box.cell 2
        have f0 := M11.out.box.frozen 0
        have f1 := M11.out.box.frozen 1
        have f2 := M11.out.box.frozen 2
        have M12 := Lib.hid (M11.out.put (by omega) (by omega) S11.out.own)
        clear S11 M11
        go_wp2_with fail
        go_roundw
        case rel => exact ⟨n - 1, N2, dues', lives'.set k false, D5, _, D7, D8, d5, e6, d7, d8, by go_num, by omega, by have := DL.out; omega, rfl, by rw [List.length_set], FN2, SM', M12⟩
        case measure => simp [intOf]; omega
      · have h8' : ¬ ((r8 : Int) = 0) := by omega
        have h9 : ((r8 : Int) == 0) = false := by simpa using h8
        go_wp2_with fail
        go_roundw
        case rel => exact ⟨n - 1, N, dues', lives', D5, E6, D3, D4, d5, e6, d3, d4, by go_num, by omega, by have := DL.out; omega, rfl, rfl, FN, SM', M8⟩
        case measure => simp [intOf]; omega
    · have hn2 : ¬ (n ≥ 0) := hn
      have i1 : ¬ ((0 : Int) ≤ n) := hn
      have M2 := MS
      obtain ⟨VL, hVL⟩ : ∃ VL, VL = wr.alloc (.cells #[.int .i64 (-1), .int .i64 (-1), .int .i64 0, .int .i64 0, .bool false] 39) := ⟨_, rfl⟩
      have ML : Hid (FireM w VL w1.heap.size A c xs w1.heap.size D1 d1 D2 d2 T D d dues E e lives) := by rw [hVL]; exact MS.out.same (Kept.alloc0 _ _)
      have BL : Hid (Blk VL wr.heap.size 39 #[.int .i64 (-1), .int .i64 (-1), .int .i64 0, .int .i64 0, .bool false]) := by rw [hVL]; exact Blk.new _ _ _
      have zL := MS.out.hz
      have HVL := Lib.hid hVL
      clear hVL MS M2
      go_upto_region 25 with fail
      rw [← HVL.out]
      clear HVL
      obtain ⟨bl, hbl⟩ : ∃ bl, bl = wr.heap.size := ⟨_, rfl⟩
      rw [← hbl] at BL zL ⊢
      obtain ⟨nL, hnL⟩ : ∃ nL, nL = lives.length := ⟨_, rfl⟩
      rw [← hnL]
      have NL := Lib.hid hnL
      clear hbl hnL
      have B0 : Hid (Behind dues lives (-1) (-1)) := fun j hj hj' _ => by have := (SM.out _ (List.getElem_mem hj)).1; omega
      have L0 : Hid (Later_ dues lives (0 - 1)) := fun j hj hj' _ => by have := (SM.out _ (List.getElem_mem hj)).1; omega
      have dl2 : dues.length ≤ 12 := by omega
      clear hn0 hn1 hn hn2 i1
      go_wp2_with fail
      go_loopw [15] (fun p wr => ∃ (nw : Int) (T : Tms) (lv : List Bool) (D1 D2 : Option Addr) (d1 d2 : Nat) (ls ld la lb : Int) (lx : Bool), p = .int .i64 nw ∧ 0 ≤ nw ∧ nw ≤ 10 ∧ Hid (lv.length = nL) ∧ Hid (Fir T dues lv) ∧ Hid (Blk wr bl 39 #[.int .i64 ls, .int .i64 ld, .int .i64 la, .int .i64 lb, .bool lx]) ∧ Hid (Behind dues lv ls ld) ∧ Hid (Later_ dues lv (nw - 1)) ∧ Hid (FireM w wr w1.heap.size A c xs w1.heap.size D1 d1 D2 d2 T D d dues E e lv)) (fun p _ => 10 - (intOf p).toNat)
      case atStart => exact ⟨0, T, lives, D1, D2, d1, d2, -1, -1, 0, 0, false, rfl, by omega, by omega, Lib.hid NL.out.symm, FI, BL, B0, L0, ML⟩
      case round =>
        clear FI BL B0 L0 ML NL
        obtain ⟨nw, T, lv, D1, D2, d1, d2, ls, ld, la, lb, lx, rfl, hw0, hw1, NL, FI, BL, BH, LT, MS⟩ := hrel
        by_cases hw : nw < 10
        · clear LT
          go_wp2_with fail
          go_loopw [18] (fun _ wr => ∃ (T : Tms) (lv : List Bool) (D1 D2 : Option Addr) (d1 d2 : Nat) (ls ld la lb : Int) (lx : Bool), Hid (lv.length = nL) ∧ Hid (Fir T dues lv) ∧ Hid (Blk wr bl 39 #[.int .i64 ls, .int .i64 ld, .int .i64 la, .int .i64 lb, .bool lx]) ∧ Hid (Behind dues lv ls ld) ∧ Hid (FireM w wr w1.heap.size A c xs w1.heap.size D1 d1 D2 d2 T D d dues E e lv)) (fun _ wr => yes wr E nL)
          case atStart => exact ⟨T, lv, D1, D2, d1, d2, ls, ld, la, lb, lx, NL, FI, BL, BH, MS⟩
          case round =>
            clear NL FI BL BH MS
            obtain ⟨T, lv, D1, D2, d1, d2, ls, ld, la, lb, lx, NL, FI, BL, BH, MS⟩ := hrel
            have b0 := MS.out.box.cell 0
            have b1 := MS.out.box.cell 1
            have b2 := MS.out.box.cell 2
            have CF := Lib.hid (IF.out.at_ T nw _ _ (MS.out.own.rdW (Nat.le_refl _)))
            cases hf : firedB T nw
            · obtain ⟨e1, e2⟩ := FI.out.fired_no hf (fun x hx => by have := (SM.out x hx).2; omega)
              rw [hf, e1] at CF
              have LT : Hid (Later_ dues lv nw) := e2
              clear hf e1 e2
              go_wp2_with fail
              with_reducible refine CF.out.mono ?_
              rintro e' w4 ⟨_, rfl, ⟨_, _, rfl, ⟨D3, d3, rfl, oa⟩, ⟨D4, d4, rfl, ob⟩⟩, hk⟩
              obtain ⟨V, hV⟩ : ∃ V, V = (w4.alloc (.cells #[.slice D3 T.heap.length d3, .slice D4 T.list.length d4, .int .i64 T.next] 30)).alloc (.cells #[.int .i64 (firedX T nw).seq, .int .i64 (firedX T nw).due, .int .i64 (firedX T nw).what, .int .i64 (firedX T nw).whom, .bool (firedX T nw).armed] 39) := ⟨_, rfl⟩
              have kV : Kept 0 0 wr V := by rw [hV]; exact (hk.alloc _).alloc _
              have M4 := Lib.hid (MS.out.same kV)
              have BL4 := Lib.hid (BL.out.kept kV (.inl (Nat.le_refl _)))
              have HV := Lib.hid hV
              clear oa ob hk hV kV CF b0 b1 b2 BL MS
              go_upto_region 35 with fail
              rw [← HV.out]
              clear HV
              go_wp2_with fail
              go_loopw [19] (fun p wy => ∃ k : Nat, p = .int .i64 k ∧ k ≤ dues.length ∧ Hid (Kept 0 0 V wy)) (fun p _ => dues.length - (intOf p).toNat)
              case atStart => exact ⟨0, rfl, Nat.zero_le _, Lib.hid (Kept.refl _ _ _)⟩
              case round =>
                obtain ⟨k, rfl, hkd, HK⟩ := hrel
                have M5 := Lib.hid (M4.out.same HK.out)
                by_cases hlt : k < dues.length
                · have i1 : (k : Int) < (dues.length : Int) := by omega
                  have hkl : k < lv.length := by have := FI.out.len'; omega
                  have i2 : (k : Int) < (nL : Int) := by have := NL.out; omega
                  obtain ⟨bE, rfl, cl, _⟩ := M5.out.cellLive hkl
                  obtain ⟨bD, rfl, cd⟩ := M5.out.cellDue hlt
                  have LK := LT.out k hlt hkl
                  cases hlv : lv[k]
                  · rw [hlv] at cl
                    clear LK cd hlv
                    go_wp2
                    go_roundw
                    case rel => exact ⟨k + 1, by go_num, by omega, HK⟩
                    case measure => simp [intOf]; omega
                  · have i3 : ¬ (dues[k] ≤ nw) := by have := LK hlv; omega
                    rw [hlv] at cl
                    clear LK hlv
                    go_wp2
                    go_roundw
                    case rel => exact ⟨k + 1, by go_num, by omega, HK⟩
                    case measure => simp [intOf]; omega
                · have i1 : ¬ ((k : Int) < (dues.length : Int)) := by omega
                  have LT2 : Hid (Later_ dues lv (nw + 1 - 1)) := by rw [show nw + 1 - 1 = nw from by omega]; exact LT
                  have BL5 := Lib.hid (BL4.out.kept HK.out (.inl (Nat.le_refl _)))
                  clear LT M4 BL4
                  go_wp2
                  go_roundw
                  case rel => exact ⟨nw + 1, T, lv, D1, D2, d1, d2, ls, ld, la, lb, lx, by go_num, by omega, by omega, NL, FI, BL5, BH, LT2, M5⟩
                  case measure => simp [intOf]; omega
            · obtain ⟨k, hkd, hkl, lt, fx, fd, fir, fb⟩ := FI.out.fired_yes hf
              obtain ⟨N, hN⟩ : ∃ N, N = firedL T nw := ⟨_, rfl⟩
              rw [hf, fx, ← hN] at CF
              rw [← hN] at fir
              have FN := Lib.hid fir
              clear hf fx fir hN
              go_wp2_with fail
              with_reducible refine CF.out.mono ?_
              rintro e' w4 ⟨_, rfl, ⟨_, _, rfl, ⟨D3, d3, rfl, oa⟩, ⟨D4, d4, rfl, ob⟩⟩, hk⟩
              have ON : OwnM w4 wr.heap.size w4.heap.size (.agg #[.slice D3 N.heap.length d3, .slice D4 N.list.length d4, .int .i64 N.next]) N := ⟨_, _, rfl, ⟨D3, d3, rfl, oa⟩, ⟨D4, d4, rfl, ob⟩⟩
              obtain ⟨dk, hdk⟩ : ∃ dk, dk = dues[k] := ⟨_, rfl⟩
              obtain ⟨V, hV⟩ : ∃ V, V = (w4.alloc (.cells #[.slice D3 N.heap.length d3, .slice D4 N.list.length d4, .int .i64 N.next] 30)).alloc (.cells #[.int .i64 (k : Int), .int .i64 dk, .int .i64 2, .int .i64 3, .bool true] 39) := ⟨_, rfl⟩
              have kV : Kept 0 0 wr V := by rw [hV]; exact (hk.alloc _).alloc _
              have M4 := Lib.hid (MS.out.same kV)
              have S4 : Hid (Side V w4.heap.size wr.heap.size w4.heap.size D3 d3 D4 d4 N) := by rw [hV]; exact (Side.new ON).same (Kept.alloc0 _ _)
              have BF : Hid (Blk V (w4.heap.size + 1) 39 #[.int .i64 (k : Int), .int .i64 dk, .int .i64 2, .int .i64 3, .bool true]) := by
                rw [hV]
                have := Blk.new (w4.alloc (.cells #[.slice D3 N.heap.length d3, .slice D4 N.list.length d4, .int .i64 N.next] 30)) 39 #[.int .i64 (k : Int), .int .i64 dk, .int .i64 2, .int .i64 3, .bool true]
                rw [World.size_alloc] at this
                exact this
              have BL4 := Lib.hid (BL.out.kept kV (.inl (Nat.le_refl _)))
              have z0 := MS.out.hz
              have z4 := hk.size
              have zV : w4.heap.size + 2 ≤ V.heap.size := by rw [hV]; simp
              have HV := Lib.hid hV
              have HDK := Lib.hid hdk
              have BK := BH.out k hkd hkl lt
              have yb := BL.out.lt
              rw [← hdk] at fd BK ⊢
              clear oa ob hk ON hV kV CF b0 b1 b2 hdk BL
              go_upto_region 30 with fail
              rw [← HV.out]
              clear HV
              obtain ⟨bE, rfl, cl, fl⟩ := M4.out.cellLive hkl
              obtain ⟨bD, rfl, cd⟩ := M4.out.cellDue hkd
              rw [lt] at cl
              rw [← HDK.out] at cd
              have l0 := BL4.out.cell 0
              have l1 := BL4.out.cell 1
              have f0 := BF.out.cell 0
              have f1 := BF.out.cell 1
              have kn : (k : Int) < (nL : Int) := by have := NL.out; omega
              have kd : (k : Int) < (dues.length : Int) := by omega
              have j1 : ¬ ((k : Int) < 0) := by omega
              have j2 : ¬ ((dues.length : Int) ≤ (k : Int)) := by omega
              have j3 : (dk != dk) = false := by simp
              have j4 : ¬ (nw < dk) := by omega
              have j5 : ¬ (dk < ld) := by omega
              by_cases hq : dk = ld
              · have j6 : ¬ ((k : Int) ≤ ls) := by omega
                subst hq
                have j7 : (dk == dk) = true := by simp
                go_quiet (fail)
                go_upto_region 32 with fail
                obtain ⟨U, hU⟩ : ∃ U, U = V.drewN nq := ⟨_, rfl⟩
                rw [← hU]
                have kU : Kept 0 0 V U := by rw [hU]; exact (Kept.refl _ _ _).drewN _
                clear hU cl fl cd l0 l1 f0 f1 j1 j2 j3 j4 j5 j7 j6
                have M5 := Lib.hid (M4.out.same kU)
                have S5 := Lib.hid (S4.out.same kU)
                have BF5 := Lib.hid (BF.out.kept kU (.inl (Nat.le_refl _)))
                have BL5 := Lib.hid (BL4.out.kept kU (.inl (Nat.le_refl _)))
                have zU := kU.size
                clear kU S4 BF BL4
                obtain ⟨bE', e1, cl, fl⟩ := M5.out.cellLive hkl
                injection e1 with e1
                injection e1 with e1
                subst e1
                have f0 := BF5.out.cell 0
                have M6 := Lib.hid (M5.out.dead (k := k) rfl)
                have o6 : Hid (Only 4 w1.heap.size U (U.setCell ⟨bE, k, none⟩ (.bool false))) := by
                  obtain ⟨cs, hb⟩ := row_blk M5.out.live (b := bE) rfl
                  exact only_set hb (own_row_lo M5.out.live bE rfl).1 _
                have S6 := Lib.hid (S5.out.only o6.out (by decide) (by decide) (by decide))
                have BF6 := Lib.hid (o6.out.blk BF5.out (by decide))
                have BL6 := Lib.hid (o6.out.blk BL5.out (by decide))
                have z6 := o6.out.size
                obtain ⟨U6, hU6⟩ : ∃ U6, U6 = U.setCell ⟨bE, k, none⟩ (.bool false) := ⟨_, rfl⟩
                rw [← hU6] at M6 S6 BF6 BL6 z6
                have HU6 := Lib.hid hU6
                clear hU6 o6 M5 S5 BF5 BL5
                go_upto_region 33 with fail
                rw [← HU6.out]
                clear HU6 cl fl f0
                have f0 := BF6.out.cell 0
                have f1 := BF6.out.cell 1
                have f2 := BF6.out.cell 2
                have f3 := BF6.out.cell 3
                have f4 := BF6.out.cell 4
                have l0 := BL6.out.cell 0
                have l1 := BL6.out.cell 1
                have l2 := BL6.out.cell 2
                have l3 := BL6.out.cell 3
                have l4 := BL6.out.cell 4
                have r0 := BL6.out.frozen 0
                have r1 := BL6.out.frozen 1
                have r2 := BL6.out.frozen 2
                have r3 := BL6.out.frozen 3
                have r4 := BL6.out.frozen 4
                have K7 : Hid (Kept bl (bl + 1) U6 (((((U6.setCell ⟨bl, 0, none⟩ (.int .i64 (k : Int))).setCell ⟨bl, 1, none⟩ (.int .i64 dk)).setCell ⟨bl, 2, none⟩ (.int .i64 2)).setCell ⟨bl, 3, none⟩ (.int .i64 3)).setCell ⟨bl, 4, none⟩ (.bool true))) := by
                  have s : ∀ {V : World} (i : Nat) (v : Value), Kept bl (bl + 1) U6 V → Kept bl (bl + 1) U6 (V.setCell ⟨bl, i, none⟩ v) := fun i v k => Kept.setCell k (p := ⟨bl, i, none⟩) (.inr ⟨Nat.le_refl _, Nat.lt_succ_self _⟩) v
                  exact s 4 _ (s 3 _ (s 2 _ (s 1 _ (s 0 _ (Kept.refl _ _ U6)))))
                have BL7 : Hid (Blk (((((U6.setCell ⟨bl, 0, none⟩ (.int .i64 (k : Int))).setCell ⟨bl, 1, none⟩ (.int .i64 dk)).setCell ⟨bl, 2, none⟩ (.int .i64 2)).setCell ⟨bl, 3, none⟩ (.int .i64 3)).setCell ⟨bl, 4, none⟩ (.bool true)) bl 39 #[.int .i64 (k : Int), .int .i64 dk, .int .i64 2, .int .i64 3, .bool true]) := ((((BL6.out.set_ 0 _).set_ 1 _).set_ 2 _).set_ 3 _).set_ 4 _
                obtain ⟨U7, hU7⟩ : ∃ U7, U7 = ((((U6.setCell ⟨bl, 0, none⟩ (.int .i64 (k : Int))).setCell ⟨bl, 1, none⟩ (.int .i64 dk)).setCell ⟨bl, 2, none⟩ (.int .i64 2)).setCell ⟨bl, 3, none⟩ (.int .i64 3)).setCell ⟨bl, 4, none⟩ (.bool true) := ⟨_, rfl⟩
                rw [← hU7] at K7 BL7
                have HU7 := Lib.hid hU7
                clear hU7
                have M7 := Lib.hid (M6.out.lastly K7.out BL6.out (by omega))
                have S7 := Lib.hid (S6.out.lastly K7.out BL6.out (by omega))
                have z7 := K7.out.size
                go_upto_region 34 with fail
                rw [← HU7.out]
                clear HU7 f0 f1 f2 f3 f4 l0 l1 l2 l3 l4 r0 r1 r2 r3 r4 K7 M6 S6 BF6 BL6
                have x0 := S7.out.box.cell 0
                have x1 := S7.out.box.cell 1
                have x2 := S7.out.box.cell 2
                have t0 := M7.out.box.cell 0
                have t1 := M7.out.box.cell 1
                have t2 := M7.out.box.cell 2
                have g0' := M7.out.box.frozen 0
                have g1' := M7.out.box.frozen 1
                have g2' := M7.out.box.frozen 2
                have M8 := Lib.hid (M7.out.put (by omega) (by omega) S7.out.own)
                have BL8 := Lib.hid ((only_set3 M7.out.box M7.out.hbt (.slice D3 N.heap.length d3) (.slice D4 N.list.length d4) (.int .i64 N.next)).blk BL7.out (by decide))
                have BH8 : Hid (Behind dues (lv.set k false) k dk) := by
                  intro j hj hj' hl
                  obtain ⟨hj'', hne, hl'⟩ := set_live hj' hl
                  have := fb j hj hj'' hl'
                  rw [← HDK.out] at this
                  omega
                have YL := Lib.hid (yes_less MS.out M8.out hkl lt)
                have NL8 : Hid ((lv.set k false).length = nL) := by show _ = _; rw [List.length_set]; exact NL.out
                clear S7 M7 BL7
                go_wp2_with fail
                go_roundw
                case rel => exact ⟨N, lv.set k false, D3, D4, d3, d4, k, dk, 2, 3, true, NL8, FN, BL8, BH8, M8⟩
                case measure => have := YL.out; rw [NL.out] at this; exact this
              · have j7 : (dk == ld) = false := by simpa using hq
                go_quiet (fail)
                go_upto_region 32 with fail
                obtain ⟨U, hU⟩ : ∃ U, U = V.drewN nq := ⟨_, rfl⟩
                rw [← hU]
                have kU : Kept 0 0 V U := by rw [hU]; exact (Kept.refl _ _ _).drewN _
                clear hU cl fl cd l0 l1 f0 f1 j1 j2 j3 j4 j5 j7
                have M5 := Lib.hid (M4.out.same kU)
                have S5 := Lib.hid (S4.out.same kU)
                have BF5 := Lib.hid (BF.out.kept kU (.inl (Nat.le_refl _)))
                have BL5 := Lib.hid (BL4.out.kept kU (.inl (Nat.le_refl _)))
                have zU := kU.size
                clear kU S4 BF BL4
                obtain ⟨bE', e1, cl, fl⟩ := M5.out.cellLive hkl
                injection e1 with e1
                injection e1 with e1
                subst e1
                have f0 := BF5.out.cell 0
                have M6 := Lib.hid (M5.out.dead (k := k) rfl)
                have o6 : Hid (Only 4 w1.heap.size U (U.setCell ⟨bE, k, none⟩ (.bool false))) := by
                  obtain ⟨cs, hb⟩ := row_blk M5.out.live (b := bE) rfl
                  exact only_set hb (own_row_lo M5.out.live bE rfl).1 _
                have S6 := Lib.hid (S5.out.only o6.out (by decide) (by decide) (by decide))
                have BF6 := Lib.hid (o6.out.blk BF5.out (by decide))
                have BL6 := Lib.hid (o6.out.blk BL5.out (by decide))
                have z6 := o6.out.size
                obtain ⟨U6, hU6⟩ : ∃ U6, U6 = U.setCell ⟨bE, k, none⟩ (.bool false) := ⟨_, rfl⟩
                rw [← hU6] at M6 S6 BF6 BL6 z6
                have HU6 := Lib.hid hU6
                clear hU6 o6 M5 S5 BF5 BL5
                go_upto_region 33 with fail
                rw [← HU6.out]
                clear HU6 cl fl f0
                have f0 := BF6.out.cell 0
                have f1 := BF6.out.cell 1
                have f2 := BF6.out.cell 2
                have f3 := BF6.out.cell 3
                have f4 := BF6.out.cell 4
                have l0 := BL6.out.cell 0
                have l1 := BL6.out.cell 1
                have l2 := BL6.out.cell 2
                have l3 := BL6.out.cell 3
                have l4 := BL6.out.cell 4
                have r0 := BL6.out.frozen 0
                have r1 := BL6.out.frozen 1
                have r2 := BL6.out.frozen 2
                have r3 := BL6.out.frozen 3
                have r4 := BL6.out.frozen 4
                have K7 : Hid (Kept bl (bl + 1) U6 (((((U6.setCell ⟨bl, 0, none⟩ (.int .i64 (k : Int))).setCell ⟨bl, 1, none⟩ (.int .i64 dk)).setCell ⟨bl, 2, none⟩ (.int .i64 2)).setCell ⟨bl, 3, none⟩ (.int .i64 3)).setCell ⟨bl, 4, none⟩ (.bool true))) := by
                  have s : ∀ {V : World} (i : Nat) (v : Value), Kept bl (bl + 1) U6 V → Kept bl (bl + 1) U6 (V.setCell ⟨bl, i, none⟩ v) := fun i v k => Kept.setCell k (p := ⟨bl, i, none⟩) (.inr ⟨Nat.le_refl _, Nat.lt_succ_self _⟩) v
                  exact s 4 _ (s 3 _ (s 2 _ (s 1 _ (s 0 _ (Kept.refl _ _ U6)))))
                have BL7 : Hid (Blk (((((U6.setCell ⟨bl, 0, none⟩ (.int .i64 (k : Int))).setCell ⟨bl, 1, none⟩ (.int .i64 dk)).setCell ⟨bl, 2, none⟩ (.int .i64 2)).setCell ⟨bl, 3, none⟩ (.int .i64 3)).setCell ⟨bl, 4, none⟩ (.bool true)) bl 39 #[.int .i64 (k : Int), .int .i64 dk, .int .i64 2, .int .i64 3, .bool true]) := ((((BL6.out.set_ 0 _).set_ 1 _).set_ 2 _).set_ 3 _).set_ 4 _
                obtain ⟨U7, hU7⟩ : ∃ U7, U7 = ((((U6.setCell ⟨bl, 0, none⟩ (.int .i64 (k : Int))).setCell ⟨bl, 1, none⟩ (.int .i64 dk)).setCell ⟨bl, 2, none⟩ (.int .i64 2)).setCell ⟨bl, 3, none⟩ (.int .i64 3)).setCell ⟨bl, 4, none⟩ (.bool true) := ⟨_, rfl⟩
                rw [← hU7] at K7 BL7
                have HU7 := Lib.hid hU7
                clear hU7
                have M7 := Lib.hid (M6.out.lastly K7.out BL6.out (by omega))
                have S7 := Lib.hid (S6.out.lastly K7.out BL6.out (by omega))
                have z7 := K7.out.size
                go_upto_region 34 with fail
                rw [← HU7.out]
                clear HU7 f0 f1 f2 f3 f4 l0 l1 l2 l3 l4 r0 r1 r2 r3 r4 K7 M6 S6 BF6 BL6
                have x0 := S7.out.box.cell 0
                have x1 := S7.out.box.cell 1
                have x2 := S7.out.box.cell 2
                have t0 := M7.out.box.cell 0
                have t1 := M7.out.box.cell 1
                have t2 := M7.out.box.cell 2
                have g0' := M7.out.box.frozen 0
                have g1' := M7.out.box.frozen 1
                have g2' := M7.out.box.frozen 2
                have M8 := Lib.hid (M7.out.put (by omega) (by omega) S7.out.own)
                have BL8 := Lib.hid ((only_set3 M7.out.box M7.out.hbt (.slice D3 N.heap.length d3) (.slice D4 N.list.length d4) (.int .i64 N.next)).blk BL7.out (by decide))
                have BH8 : Hid (Behind dues (lv.set k false) k dk) := by
                  intro j hj hj' hl
                  obtain ⟨hj'', hne, hl'⟩ := set_live hj' hl
                  have := fb j hj hj'' hl'
                  rw [← HDK.out] at this
                  omega
                have YL := Lib.hid (yes_less MS.out M8.out hkl lt)
                have NL8 : Hid ((lv.set k false).length = nL) := by show _ = _; rw [List.length_set]; exact NL.out
                clear S7 M7 BL7
                go_wp2_with fail
                go_roundw
                case rel => exact ⟨N, lv.set k false, D3, D4, d3, d4, k, dk, 2, 3, true, NL8, FN, BL8, BH8, M8⟩
                case measure => have := YL.out; rw [NL.out] at this; exact this
        · obtain rfl : nw = 10 := by omega
          have NH : T.heap = [] := FI.out.empty (fun j hj hj' => by
            cases hlv : lv[j]
            · rfl
            · have := LT.out j hj hj' hlv
              have := (SM.out _ (List.getElem_mem hj)).2
              omega)
          have EO := Lib.hid FI.out.okB
          have EN : Hid (nextDueI T = 9223372036854775807) := by show _ = _; simp [nextDueI, EO.out, nextDueN, NH]
          have EX := Lib.hid FI.out.next
          clear NH LT BH BL hw hw0 hw1
          have b0 := MS.out.box.cell 0
          have b1 := MS.out.box.cell 1
          have b2 := MS.out.box.cell 2
          have CO := Lib.hid (IO.out.at_ T _ _ (MS.out.own.rdW (Nat.le_refl _)))
          rw [EO.out] at CO
          go_wp2_with fail
          with_reducible refine CO.out.mono ?_
          rintro e' w4 ⟨rfl, hk⟩
          have M4 := Lib.hid (MS.out.same hk)
          clear hk CO MS b0 b1 b2
          have b0 := M4.out.box.cell 0
          have b1 := M4.out.box.cell 1
          have b2 := M4.out.box.cell 2
          have CN := Lib.hid (IN.out.at_ T _ _ (M4.out.own.rdW (Nat.le_refl _)))
          rw [EN.out] at CN
          go_wp2_with fail
          with_reducible refine CN.out.mono ?_
          rintro e' w5 ⟨rfl, hk⟩
          have M5 := Lib.hid (M4.out.same hk)
          clear hk CN M4 b0 b1 b2
          have b2 := M5.out.box.cell 2
          rw [EX.out] at b2
          go_wp2
          go_ret
          exact ⟨rfl, M5.out.kept⟩
end Go.Proofs.Ytgphakpcenlplaa
