/- FnWoken holds as given, under what is asked of the program's functions (Does..): for every code the law returns true, and the code reads afterwards as before. -/
import Derived.Test.YtfpnpjpcjbndoaaIj
import Derived.Test.YtfpnpjpcjbndoaaEf
namespace Go.Proofs.Ytfpnpjpcjbndoaa
open Go.ChangeShapes Go.WideShapes Go.ChangeAt Go.RowKit Go.Joins Go.Deep

set_option maxHeartbeats 400000 in
set_option maxRecDepth 100000 in
theorem wokenAll_all (h1 : DoesTasksOk) (h2 : DoesParkedOn) (h3 : DoesReadyIn) (h4 : DoesWoken) (xs : List Int) (A : Option Addr) (c : Nat) (w : World) (h : Rd (Value.int .u8) w w.heap.size A xs) (hx : ∀ x ∈ xs, 0 ≤ x ∧ x ≤ 255) :
    Calls Try.prog 3 #[.slice A xs.length c] w fun e w' => e = .returned (.bool true) ∧ Kept 0 0 w w' := by
  rcases Nat.lt_or_ge 4096 xs.length with hl | hl
  · have hm := h.1
    have hbig : decide (4096 < xs.length) = true := by simpa using hl
    clear h hx
    go_enter Try.func3, Try.ntmps3
    go_wp2_with fail
    with_reducible refine (big_any _ _ _ _ hm).mono ?_
    rintro e w' ⟨rfl, rfl⟩
    rw [hbig]
    clear hbig hl hm
    go_wp2_with fail
    go_ret
    exact ⟨rfl, Kept.refl _ _ _⟩
  · exact lawWk h1 h2 h3 h4 xs A c w h hx hl

set_option maxRecDepth 100000 in
theorem wokenAll_lifted (h1 : DoesTasksOk) (h2 : DoesParkedOn) (h3 : DoesReadyIn) (h4 : DoesWoken) (os : Os) (started : os.Started) (H : Type) (enc : TypeId × Value → H) :
    ReturnsInHanded {} Try.checked os 3 .any (Rows.fnWokenSpec.pre6 enc Try.prog Try.f3 Rows.fnWokenRow.domain false) (Rows.fnWokenSpec.post enc Try.prog Try.f3 false true false false) := by
  refine returnsInHanded_of_change (C := Try.checked) Try.own started (by kernel_rfl) Try.func3
    (ChangeSpec.witness6 (enc := enc) (C := Try.checked) false ⟨#[], #[.slice none 0 0], []⟩ 8 (by kernel_rfl) (by kernel_rfl) (by kernel_rfl) (by kernel_rfl)) ?_
  intro W base args ds gs before hval0 hW hcnd _
  have hval : ∀ (j : Nat) t v, Try.f3.params[j]? = some t → args[j]? = some v → Value.okWide Try.prog W .any base t v := hval0
  have hW' := hW
  obtain ⟨p, q, hA0, hV, rfl, hfz, hnd⟩ := hW
  have hA : DataW.TrodAll enc Try.prog W 0 (fun _ => true) true Try.f3.params.toList args.toList ds p := hA0
  rw [Try.params3] at hA hval
  obtain ⟨v0, d0, rfl, rfl, h0⟩ := trodAll_one hA
  obtain ⟨rfl, rfl⟩ := trodVars_none hV
  have hlt : ∀ x ∈ p, x.block < W.heap.size := fun x hx => hW'.lt x (by simpa using hx)
  have hsl := okWide_slice Try.underlying22 (hval 0 22 v0 rfl rfl)
  obtain ⟨n, hy⟩ := field_of_Trod h0 (by obtain ⟨a, len, cap, rfl⟩ := hsl; rfl)
  obtain ⟨A, c, xs, rfl, r0, hwf⟩ := open_rdK Try.underlying22 Try.underU8 Try.cellsU8 hy
  have hx : ∀ x ∈ xs, 0 ≤ x ∧ x ≤ 255 := fun x hx => by
    have h1 := hwf x hx
    have e1 : IntKind.u8.min = 0 := by decide
    have e2 : IntKind.u8.max = 255 := by decide
    simp [Lit.wf, e1, e2] at h1
    omega
  clear hA0 hval0 hy hsl hwf
  simp only [List.append_nil] at hW'
  refine (wokenAll_all h1 h2 h3 h4 xs A c W r0 hx).mono fun e W' ⟨he, hk⟩ => ?_
  subst he
  have hb : Below W.heap.size W W' := hk.below (Nat.le_refl _) (.inl (Nat.le_refl _))
  exact ⟨_, rfl, post_of_below (pa := p) (pv := []) hW' (fun _ _ _ => trodAll_mk1 (shut_bool Try.underlying4 _)) (fun sp hsp => trodAll_mk1 (stays Try.laidOut (by kernel_rfl) (of_decide_eq_true (by kernel_rfl)) h0 hb hlt sp (fun x hx => hsp x (by simpa using hx)))) (fun _ _ => rfl) (by simp)
    hb (ok_one (by kernel_rfl) rfl (okWide_bool_mk Try.underlying4 _))⟩

theorem wokenAll_holds (h1 : DoesTasksOk) (h2 : DoesParkedOn) (h3 : DoesReadyIn) (h4 : DoesWoken) : Rows.FnWokenSaid :=
  OpenClaim.holds_of_wide 3 Try.f3 rfl rfl rfl rfl rfl rfl rfl ⟨rfl, rfl, rfl, rfl, rfl⟩ rfl rfl rfl rfl rfl (by kernel_rfl) Try.func3 (by kernel_rfl)
    (of_decide_eq_true (by kernel_rfl)) (by unfold Func.isWrapper; first | (rw [if_pos (by decide +kernel)]; kernel_rfl) | (rw [if_neg (by decide +kernel)]; exact ⟨rfl, rfl⟩))
    (fun os started H enc _ => wokenAll_lifted h1 h2 h3 h4 os started H enc)
end Go.Proofs.Ytfpnpjpcjbndoaa
