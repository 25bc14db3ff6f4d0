/- The reference's ShowProg; no condition beyond that the program can be read. -/
import Derived.Test.YtoccbmmjcbjacaaDoorFj
namespace Go.Proofs.YtoccbmmjcbjacaaDoor
open Go.RowKit Go.Sort

theorem own_litS (w : World) (x : List UInt8) : (w.alloc (.cells #[.string (bs x)] 9)).ownsRow w.heap.size 9 1 (.slice (some ⟨w.heap.size, 0, none⟩) 1 1) 1 (sR.flat [x]) :=
  World.ownsRow_lit w #[.string (bs x)] 1 (Nat.le_refl _) (by unfold maxLen; omega) rfl
theorem rd_litS (w : World) (x : List UInt8) : RdR sR (w.alloc (.cells #[.string (bs x)] 9)) (w.heap.size + 1) (some ⟨w.heap.size, 0, none⟩) [x] := by
  have := (OwnZ.rd (R := sR) (OwnZ.of_row (own_litS w x))).2
  simpa using this
theorem showI_len {i : Ins} (h : insB i = true) : (showI i).length ≤ 40 := by
  rw [showI_eq]
  have h1 := name_len i.op.toNat
  have h2 : (wordA i.a).length ≤ 12 := by
    unfold wordA
    split
    · decide
    · unfold intS
      rw [if_neg (by omega)]
      exact digs_len _ 12 (by omega) (by have := a_ge h; omega)
  have h3 : (intS i.b).length ≤ 12 := by
    unfold intS
    rw [if_neg (by have := b_ge h; omega)]
    exact digs_len _ 12 (by omega) (by have := b_ge h; omega)
  simp only [List.length_append, List.length_cons, List.length_nil]
  split <;> simp <;> omega
theorem joinW_small (s : List UInt8) (ws : List (List UInt8)) (hs : s.length ≤ 2) (h : ∀ x ∈ ws, x.length ≤ 40) : (joinW s ws).length ≤ 42 * ws.length := by
  induction ws with
  | nil => simp [joinW]
  | cons w r ih =>
    have h1 := h w (by simp)
    have h2 := ih (fun x hx => h x (by simp [hx]))
    by_cases hr : r = []
    · subst hr; simp [joinW]; omega
    · rw [joinW_cons _ _ hr]
      simp only [List.length_append, List.length_cons]
      omega

set_option maxHeartbeats 1600000 in
theorem showP_any (xs : List Ins) (A : Option Addr) (c B : Nat) (w : World) (hB : B ≤ w.heap.size) (h : RdR nsR w B A xs) :
    Calls Tryd.prog 15 #[.slice A xs.length c] w fun e w' => e = .returned (.string (bs (showP xs))) ∧ Kept 0 0 w w' := by
  have H := Lib.hid h
  have HS := Lib.hid sSlice
  clear h
  go_enter Tryd.func15, Tryd.ntmps15
  go_wp2_with fail
  with_reducible refine (progOk_any xs A c B _ hB H.out).mono ?_
  rintro e w1 ⟨rfl, hk⟩
  have H1 := Lib.hid (H.out.kept hB hk (.inl (Nat.le_refl _)))
  have K1 := Lib.hid hk
  have z1 := hk.size
  clear hk
  cases hp : progB xs
  · go_wp2_with fail
    go_ret
    exact ⟨ret_str (by unfold showP; rw [hp]; rfl), K1.out⟩
  have HP := Lib.hid (progB_iff.1 hp)
  have xl : xs.length ≤ 12 := HP.out.2
  have hR : bs (showP xs) = bs (joinW [59, 32] (xs.map showI)) := by unfold showP; rw [if_pos hp]
  have HR := Lib.hid hR
  clear hR
  go_wp2_with fail
  go_loopw [3, 4] (fun v i wr => ∃ (k : Nat) (D : Option Addr) (d : Nat) (ws : List (List UInt8)), k ≤ xs.length ∧ i = .int .i64 k ∧ v = .slice D ws.length d ∧ Hid (ws = (xs.take k).map showI) ∧ Hid (wr.ownsRow w.heap.size 9 1 (.slice D ws.length d) ws.length (sR.flat ws)) ∧ Hid (Kept 0 0 w wr)) (fun _ i _ => xs.length - (intOf i).toNat)
  case atStart => exact ⟨0, _, _, [], Nat.zero_le _, by rfl, by rfl, by rfl, own_emptyZ (Blk.new w1 9 #[]) z1, K1.out.alloc _⟩
  case round =>
    clear K1
    obtain ⟨k, D, d, ws, hk, rfl, rfl, HW, HO, HK⟩ := hrel
    have WL : Hid (ws.length = k) := by show _ = _; rw [HW.out]; simp; omega
    have wl : ws.length ≤ 12 := by have := WL.out; omega
    have zk := HK.out.size
    by_cases hlt : k < xs.length
    · obtain ⟨ad, rfl, _, c0, c1, c2⟩ := (H.out.kept hB HK.out (.inl (Nat.le_refl _))).ns hlt
      have i1 : (k : Int) < (xs.length : Int) := by omega
      have hv := HP.out.1 _ (List.getElem_mem hlt)
      have E : Hid (ws ++ [showI xs[k]] = (xs.take (k + 1)).map showI) := by show _ = _; rw [List.take_succ_eq_append_getElem hlt, List.map_append, HW.out]; rfl
      obtain ⟨x, hxk⟩ : ∃ x, x = xs[k] := ⟨_, rfl⟩
      rw [← hxk] at c0 c1 c2 hv E
      have HV := Lib.hid hv
      clear hxk hv
      go_wp2_with fail
      with_reducible refine (show_any x HV.out _).mono ?_
      rintro e w2 ⟨rfl, hk2⟩
      have O2 := Lib.hid (row_kept HO.out hk2)
      have K2 := Lib.hid (HK.out.trans hk2)
      have z2 := hk2.size
      clear hk2 HO HK c0 c1 c2
      go_wp2_with (at_builtin; refine wpList_app (R := sR) rfl (.tmp 15) (.tmp 21) rfl HS.out w.heap.size D d ws rfl (row_kept O2.out (Kept.alloc0 w2 (.cells #[.string (bs (showI x))] 9))) (w2.heap.size + 1) (some ⟨w2.heap.size, 0, none⟩) 1 [showI x] rfl (rd_litS w2 (showI x)) (by simp [maxLen]; omega) (by simp; omega) (by simp; omega) ?_; intro D1 d1 w3 hown hgrow hat)
      have K3 := Lib.hid ((K2.out.alloc (.cells #[.string (bs (showI x))] 9)).app hgrow (fun g hg => (own_row_lo O2.out g hg).1))
      have O3 := Lib.hid hown
      clear hown hgrow hat O2 K2
      go_roundw
      case rel => exact ⟨k + 1, D1, d1, ws ++ [showI x], by omega, by go_num, by simp, E, O3, K3⟩
      case measure => simp [intOf]; omega
    · have i1 : ¬ (k : Int) < (xs.length : Int) := by omega
      have hall : Hid (ws = xs.map showI) := by show _ = _; rw [HW.out, List.take_of_length_le (by omega)]
      have hz : (joinW [59, 32] ws).length ≤ 1099511627776 := by
        have := joinW_small [59, 32] ws (by simp) (fun x hx => by
          rw [hall.out] at hx
          obtain ⟨i, hi, rfl⟩ := List.mem_map.1 hx
          exact showI_len (HP.out.1 i hi))
        omega
      have CW : Hid (Calls Tryd.prog 34 #[.slice D ws.length d, .string ⟨#[59, 32]⟩] wr fun e w' => e = .returned (.string (bs (joinW [59, 32] ws))) ∧ wr = w') := words_any ws [59, 32] D d wr.heap.size wr (OwnZ.rd (R := sR) (OwnZ.of_row HO.out)).2 hz
      clear hz
      go_wp2_with fail
      with_reducible refine CW.out.mono ?_
      rintro e w2 ⟨rfl, rfl⟩
      go_wp2_with fail
      go_ret
      exact ⟨ret_str (by rw [HR.out, hall.out]), HK.out⟩
end Go.Proofs.YtoccbmmjcbjacaaDoor
