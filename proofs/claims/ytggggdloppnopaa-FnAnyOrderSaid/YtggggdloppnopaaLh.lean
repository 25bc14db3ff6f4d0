/- The law of Without returns true for every code, under the contracts of the program's Without and Sorted; condition: the code can be read. -/
import Derived.Test.YtggggdloppnopaaDh
namespace Go.Proofs.Ytggggdloppnopaa
open Go.RowKit Go.Sort

set_option maxHeartbeats 800000 in
theorem likeTw_same (xs : List Tw) (A A' : Option Addr) (c c' B B' : Nat) (w : World) (hB : B ≤ w.heap.size) (hB' : B' ≤ w.heap.size) (h : RdR twR w B A xs) (h' : RdR twR w B' A' xs) :
    Calls Try.prog 28 #[.slice A xs.length c, .slice A' xs.length c'] w fun e w' => e = .returned (.bool true) ∧ Kept 0 0 w w' := by
  have hx := h.1
  unfold maxLen at hx
  have H := Lib.hid h
  have H' := Lib.hid h'
  clear h h'
  have hb : (((xs.length : Int)) != ((xs.length : Int))) = false := by simp
  go_enter Try.func28, Try.ntmps28
  go_wp2
  go_loopw [5] (fun i wr => ∃ k : Nat, k ≤ xs.length ∧ i = .int .i64 k ∧ Hid (Kept 0 0 w wr)) (fun i _ => xs.length - (intOf i).toNat)
  case atStart => exact ⟨0, Nat.zero_le _, rfl, Lib.hid (Kept.refl _ _ _)⟩
  case round =>
    obtain ⟨k, hk, rfl, HK⟩ := hrel
    by_cases hlt : k < xs.length
    · obtain ⟨ad, rfl, _, c0, c1, c2⟩ := (H.out.kept hB HK.out (.inl (Nat.le_refl _))).tw hlt
      obtain ⟨ad', rfl, _, d0, d1, d2⟩ := (H'.out.kept hB' HK.out (.inl (Nat.le_refl _))).tw hlt
      have i1 : (k : Int) < (xs.length : Int) := by omega
      go_wp2_with fail
      go_quiet (fail)
      go_wp2
      go_roundw
      case rel => exact ⟨k + 1, by omega, by go_num, Lib.hid (HK.out.drewN _)⟩
      case measure => simp [intOf]; omega
    · go_wp2
      go_ret
      exact ⟨rfl, HK.out⟩
theorem likeT (xs : List Tw) (v v' : Value) (w : World) (h : RdT w w.heap.size v xs) (h' : RdT w w.heap.size v' xs) :
    Calls Try.prog 28 #[v, v'] w fun e w' => e = .returned (.bool true) ∧ Kept 0 0 w w' := by
  obtain ⟨A, c, rfl, h⟩ := h
  obtain ⟨A', c', rfl, h'⟩ := h'
  exact likeTw_same xs A A' c c' _ _ w (Nat.le_refl _) (Nat.le_refl _) h.rd h'.rd

/-! ### What Without leaves -/
theorem without_uniq {t : HTree} (q : Int) (ho : t.ok = true) (hu : uniq t) : uniq (withoutT t q).1 := by
  have h := (without_els t q ho hu).map Tw.seq
  unfold uniq
  rw [List.Perm.nodup_iff h]
  exact List.Nodup.sublist (List.Sublist.map _ List.filter_sublist) hu
theorem heapOk_pre {t : HTree} (ho : t.ok = true) (hu : uniq t) (hl : t.size ≤ 64) : heapOkB t.pre = true := by
  refine heapOk_iff.2 ⟨by rw [HTree.pre_len]; exact hl, ?_, by rw [rankL_pre t ho]; omega⟩
  unfold uniq at hu
  rw [seqs_pre] at hu
  simp [twiceB, hu]
theorem sortedL_pre {t : HTree} (ho : t.ok = true) (hu : uniq t) (hl : t.size ≤ 64) : sortedL t.pre = sortT t := by
  unfold sortedL
  rw [heapOk_pre ho hu hl, if_pos rfl, treeOf_of t ho]
structure WithoutSays (h : List Tw) (q : Int) : Prop where
  ok : heapOkB (withoutL h q) = true
  len : (withoutL h q).length + 1 = h.length
  sorted : sortedL (withoutL h q) = (sortedL h).filter (fun x => decide (x.seq ≠ q))
theorem without_says {h : List Tw} {q : Int} (hk : withoutOk h q = true) : WithoutSays h q := by
  simp only [withoutOk, Bool.and_eq_true] at hk
  obtain ⟨ho, hf⟩ := hk
  obtain ⟨h1, h2, h3⟩ := heapOk_iff.1 ho
  have hp := treeOf_pre h3
  have ht := treeOf_ok h3
  have hu : uniq (treeOf h) := uniq_pre (by rw [hp]; exact h2)
  have hs : (treeOf h).size ≤ 64 := by rw [← HTree.pre_len, hp]; exact h1
  have e : withoutL h q = (withoutT (treeOf h) q).1.pre := by simp [withoutL, ho, hf]
  have wo := without_ok _ q ht hu
  have wu := without_uniq q ht hu
  have wz := without_size _ q ht hu hf
  refine ⟨by rw [e]; exact heapOk_pre wo wu (by omega), by rw [e, HTree.pre_len, wz, ← HTree.pre_len, hp], ?_⟩
  rw [e, sortedL_pre wo wu (by omega)]
  have e2 : sortedL h = sortT (treeOf h) := by simp [sortedL, ho]
  rw [e2]
  refine sorts_eq _ _ (sortT_sorts _ wo wu) (sorts_filter (sortT_sorts _ ht hu) _) ?_
  exact (sortT_els _).trans ((without_els _ q ht hu).trans ((sortT_els _).filter _).symm)
theorem without_same {h : List Tw} {q : Int} (hk : withoutOk h q = false) (ho : heapOkB h = true) : withoutL h q = h := by
  have hf : (withoutT (treeOf h) q).2 = false := by simpa [withoutOk, ho] using hk
  simp [withoutL, ho, hf]

def sel (q : Int) (l : List Tw) : List Tw := l.filter (fun x => decide (x.seq ≠ q))
theorem sel_succ {q : Int} {l : List Tw} {k : Nat} (hk : k < l.length) : sel q (l.take (k + 1)) = sel q (l.take k) ++ (if l[k].seq = q then [] else [l[k]]) := by
  unfold sel
  rw [List.take_succ_eq_append_getElem hk, List.filter_append]
  by_cases h : l[k].seq = q <;> simp [h]
theorem sel_len (q : Int) (l : List Tw) (k : Nat) : (sel q (l.take k)).length ≤ k := Nat.le_trans (List.length_filter_le _ _) (by simp; omega)

set_option maxHeartbeats 6400000 in
theorem lawWithoutC_small (hW : DoesTI 26 withoutL withoutOk) (hS : DoesT 18 sortedL) (xs : List Int) (A : Option Addr) (c : Nat) (w : World) (h : Rd (Value.int .u8) w w.heap.size A xs) (hx : ∀ x ∈ xs, 0 ≤ x ∧ x ≤ 255) (hl : xs.length ≤ 4096) :
    Calls Try.prog 5 #[.slice A xs.length c] w fun e w' => e = .returned (.bool true) ∧ Kept 0 0 w w' := by
  have hm := h.1
  have HB : Hid (decide (4096 < xs.length) = false) := by show _ = _; simpa using hl
  have H := Lib.hid h
  have HX := Lib.hid hx
  have HW := Lib.hid hW
  have HS := Lib.hid hS
  have HT := Lib.hid twSlice
  clear h hx hW hS
  go_enter Try.func5, Try.ntmps5
  go_wp2_with fail
  with_reducible refine (big_any _ _ _ _ hm).mono ?_
  rintro e w' ⟨rfl, rfl⟩
  rw [HB.out]
  go_wp2_with fail
  with_reducible refine (drawWithout_any _ _ _ _ H.out HX.out hl).mono ?_
  rintro e w1 ⟨v, h, q, rfl, hlen, ho, hk⟩
  have O1 := Lib.hid ho
  have K1 := Lib.hid hk
  have z1 := hk.size
  clear ho hk H HX hm HB
  go_wp2_with fail
  with_reducible refine (HW.out.at_ h q _ _ (O1.out.rdW (Nat.le_refl _))).mono ?_
  rintro e w2 ⟨u, rfl, ho, hk⟩
  have X2 := Lib.hid ho
  have O2 := Lib.hid (O1.out.kept hk (.inl (Nat.le_refl _)))
  have K2 := Lib.hid (K1.out.trans hk)
  have z2 := hk.size
  clear ho hk O1 K1
  go_wp2_with fail
  with_reducible refine (specWithout.at_ h q _ _ (O2.out.rdW (by omega))).mono ?_
  rintro e w3 ⟨u3, rfl, -, hk⟩
  have X3 := Lib.hid (X2.out.kept hk (.inl (Nat.le_refl _)))
  have O3 := Lib.hid (O2.out.kept hk (.inl (Nat.le_refl _)))
  have K3 := Lib.hid (K2.out.trans hk)
  have z3 := hk.size
  clear hk O2 K2 X2
  cases hb : withoutOk h q
  · go_wp2_with fail
    with_reducible refine (specHeapOk.at_ h _ _ (O3.out.rdW (by omega))).mono ?_
    rintro e w4 ⟨rfl, hk⟩
    have X4 := Lib.hid (X3.out.kept hk (.inl (Nat.le_refl _)))
    have O4 := Lib.hid (O3.out.kept hk (.inl (Nat.le_refl _)))
    have K4 := Lib.hid (K3.out.trans hk)
    have z4 := hk.size
    clear hk O3 K3 X3
    cases ho : heapOkB h
    · clear hb ho
      go_wp2
      go_ret
      exact ⟨rfl, K4.out⟩
    · have E := Lib.hid (without_same hb ho)
      rw [E.out] at X4
      clear hb ho
      go_wp2_with fail
      with_reducible refine (likeT h _ _ _ (X4.out.rdW (by omega)) (O4.out.rdW (by omega))).mono ?_
      rintro e w5 ⟨rfl, hk⟩
      have K5 := Lib.hid (K4.out.trans hk)
      clear hk
      go_wp2
      go_ret
      exact ⟨rfl, K5.out⟩
  · have SA := Lib.hid (without_says hb)
    clear hb
    go_wp2_with fail
    with_reducible refine (HS.out.at_ h _ _ (O3.out.rdW (by omega))).mono ?_
    rintro e w4 ⟨ul, rfl, hol, hk⟩
    have X4 := Lib.hid (X3.out.kept hk (.inl (Nat.le_refl _)))
    have O4 := Lib.hid (O3.out.kept hk (.inl (Nat.le_refl _)))
    have K4 := Lib.hid (K3.out.trans hk)
    have z4 := hk.size
    have gl := sortedL_len h
    clear hk O3 K3 X3
    obtain ⟨l, hl'⟩ : ∃ l, l = sortedL h := ⟨_, rfl⟩
    rw [← hl'] at hol gl
    have EL := Lib.hid hl'
    clear hl'
    obtain ⟨DL, dl, rfl, hLz⟩ := hol
    have RL := Lib.hid (OwnZ.rd (R := twR) hLz).2
    clear hLz
    have OE : Hid ((w4.alloc (.cells #[] 35)).ownsRow w4.heap.size 35 3 (.slice (some ⟨w4.heap.size, 0, none⟩) (sel q (l.take 0)).length 0) (sel q (l.take 0)).length (twR.flat (sel q (l.take 0)))) := own_empty3 w4
    have KE := Lib.hid (Kept.alloc0 w4 (.cells #[] 35))
    go_wp2_with fail
    go_loopw [10, 11] (fun v i wr => ∃ (k : Nat) (D : Option Addr) (d : Nat), k ≤ l.length ∧ i = .int .i64 k ∧ v = .slice D (sel q (l.take k)).length d ∧ Hid (wr.ownsRow w4.heap.size 35 3 (.slice D (sel q (l.take k)).length d) (sel q (l.take k)).length (twR.flat (sel q (l.take k)))) ∧ Hid (Kept 0 0 w4 wr)) (fun _ i _ => l.length - (intOf i).toNat)
    case atStart => exact ⟨0, _, 0, Nat.zero_le _, rfl, rfl, OE, KE⟩
    case round =>
      clear OE KE
      obtain ⟨k, D, d, hk, rfl, rfl, OR, KR⟩ := hrel
      by_cases hlt : k < l.length
      · have i1 : (k : Int) < (l.length : Int) := by omega
        obtain ⟨ad, rfl, hab, c0, c1, c2⟩ := (RL.out.kept (Nat.le_refl _) KR.out (.inl (Nat.le_refl _))).tw hlt
        have ES := Lib.hid (sel_succ (q := q) hlt)
        have sl := sel_len q l k
        by_cases he : l[k].seq = q
        · have g : (l[k].seq != q) = false := by simpa using he
          rw [if_pos he, List.append_nil] at ES
          clear he
          go_wp2_with fail
          go_roundw
          case rel => exact ⟨k + 1, D, d, by omega, by go_num, by rw [ES.out], Lib.hid (by rw [ES.out]; exact OR.out), KR⟩
          case measure => simp [intOf]; omega
        · have g : (l[k].seq != q) = true := by simpa using he
          rw [if_neg he] at ES
          clear he
          have KA := Lib.hid (KR.out.alloc (.cells #[.int .i64 l[k].due, .int .i64 l[k].seq, .int .i64 l[k].lefts] 35))
          have RA := Lib.hid (OR.out.alloc (.cells #[.int .i64 l[k].due, .int .i64 l[k].seq, .int .i64 l[k].lefts] 35))
          have RX := Lib.hid (OwnZ.rd (R := twR) (OwnZ.of_row (own_lit3 wr l[k]))).2
          have zr := KR.out.size
          go_wp2_with (at_builtin; refine wpList_app (R := twR) rfl (.tmp 60) (.tmp 65) rfl HT.out w4.heap.size D d (sel q (l.take k)) rfl RA.out _ (some ⟨wr.heap.size, 0, none⟩) 1 [l[k]] rfl RX.out (by simp only [List.length_singleton]; unfold maxLen; omega) (by simp only [List.length_singleton]; omega) (by simp; omega) ?_; intro D5 d5 w5 hown hgrow hat)
          have K5 := Lib.hid (KA.out.app hgrow (fun g hg => (own_row_lo RA.out g hg).1))
          rw [← ES.out] at hown
          have O5 := Lib.hid hown
          have EL2 : Hid ((sel q (l.take (k + 1))).length = (sel q (l.take k)).length + 1) := by show _ = _; rw [ES.out]; simp
          clear hown hgrow hat
          refine ⟨⟨k + 1, D5, d5, by omega, by go_num, by rw [EL2.out], O5, K5⟩, ?_⟩
          simp [intOf]; omega
      · have ek : l.take k = l := List.take_of_length_le (by omega)
        rw [ek] at OR ⊢
        have i1 : ¬ (k : Int) < (l.length : Int) := by omega
        have XA := Lib.hid (X4.out.kept KR.out (.inl (Nat.le_refl _)))
        have OA := Lib.hid (O4.out.kept KR.out (.inl (Nat.le_refl _)))
        have KA := Lib.hid (K4.out.trans KR.out)
        have zr := KR.out.size
        clear KR X4 O4 K4 ek
        go_wp2_with fail
        with_reducible refine (specHeapOk.at_ _ _ _ (XA.out.rdW (by omega))).mono ?_
        rintro e w6 ⟨rfl, hk6⟩
        have O6 := Lib.hid (OwnT.kept ⟨D, d, rfl, OwnZ.of_row OR.out⟩ hk6 (.inl (Nat.le_refl _)))
        have X6 := Lib.hid (XA.out.kept hk6 (.inl (Nat.le_refl _)))
        have K6 := Lib.hid (KA.out.trans hk6)
        have z6 := hk6.size
        clear hk6 XA KA OR
        rw [SA.out.ok]
        obtain ⟨DX, dx, ex, hX⟩ := X6.out
        obtain ⟨DH, dh, eh, hH⟩ := OA.out
        subst ex eh
        have gx : (((withoutL h q).length : Int) == (h.length : Int) - 1) = true := by have := SA.out.len; simp; omega
        have hlb : h.length ≤ 64 := hlen
        have hxb : (withoutL h q).length ≤ 64 := withoutL_len h q
        clear hX hH
        go_wp2_with fail
        with_reducible refine (HS.out.at_ (withoutL h q) _ _ (X6.out.rdW (by omega))).mono ?_
        rintro e w7 ⟨u7, rfl, ho7, hk7⟩
        have O7 := Lib.hid (O6.out.kept hk7 (.inl (Nat.le_refl _)))
        have Y7 := Lib.hid ho7
        have K7 := Lib.hid (K6.out.trans hk7)
        have z7 := hk7.size
        clear ho7 hk7
        have ES : Hid (sortedL (withoutL h q) = sel q l) := by show _ = _; rw [SA.out.sorted, EL.out]; rfl
        rw [ES.out] at Y7
        go_wp2_with fail
        with_reducible refine (likeT (sel q l) _ _ _ (Y7.out.rdW (Nat.le_refl _)) (O7.out.rdW (by omega))).mono ?_
        rintro e w8 ⟨rfl, hk8⟩
        have K8 := Lib.hid (K7.out.trans hk8)
        clear hk8
        go_wp2
        go_ret
        exact ⟨rfl, K8.out⟩
end Go.Proofs.Ytggggdloppnopaa
