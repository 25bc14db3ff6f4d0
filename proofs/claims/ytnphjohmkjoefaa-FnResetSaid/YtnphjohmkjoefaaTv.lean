/- The reference's IsDue for every pair of numbers; what Fired is to return, and the stores into two result boxes; no condition beyond what each theorem states. -/
import Derived.Test.YtnphjohmkjoefaaTr
namespace Go.Proofs.Ytnphjohmkjoefaa
open Go.RowKit Go.Sort

def isDueB (now a : Int) : Bool := decide (a ≤ now) && decide (a ≠ 9223372036854775807)
set_option maxHeartbeats 400000 in
theorem due_any (now a : Int) (w : World) : Calls Try.prog 75 #[.int .i64 now, .int .i64 a] w fun e w' => e = .returned (.bool (isDueB now a)) ∧ w' = w := by
  have E : Hid (isDueB now a = (decide (a ≤ now) && decide (a ≠ 9223372036854775807))) := by show _ = _; rfl
  go_enter Try.func75, Try.ntmps75
  by_cases h1 : a ≤ now
  · by_cases h2 : a = 9223372036854775807
    · subst h2
      go_wp2_with fail
      go_ret
      exact ⟨by rw [E.out]; simp, rfl⟩
    · have h3 : (a == 9223372036854775807) = false := by simp [h2]
      go_wp2_with fail
      go_ret
      exact ⟨by rw [E.out]; simp [h1, h2], rfl⟩
  · go_wp2_with fail
    go_ret
    exact ⟨by rw [E.out, decide_eq_false (by omega : ¬ a ≤ now)]; rfl, rfl⟩

section
variable {w : World} {g ty : Nat} {a b c d e : Value}
theorem by0 (h : Blk w g ty #[a, b, c, d, e]) : w.cell? ⟨g, 0, none⟩ = some a := h.cell 0
theorem by1 (h : Blk w g ty #[a, b, c, d, e]) : w.cell? ⟨g, 1, none⟩ = some b := h.cell 1
theorem by2 (h : Blk w g ty #[a, b, c, d, e]) : w.cell? ⟨g, 2, none⟩ = some c := h.cell 2
theorem by3 (h : Blk w g ty #[a, b, c, d, e]) : w.cell? ⟨g, 3, none⟩ = some d := h.cell 3
theorem by4 (h : Blk w g ty #[a, b, c, d, e]) : w.cell? ⟨g, 4, none⟩ = some e := h.cell 4
end
def zeroTm : Tm := ⟨0, 0, 0, 0, false⟩
/-- The root's place in the list, where it is due. -/
def firedAt (t : Tms) (now : Int) : Option Nat := match t.heap with
  | [] => none
  | x :: _ => if isDueB now x.due then atL t.list x.seq else none
noncomputable def firedT (t : Tms) (now : Int) : Tms := match firedAt t now with
  | none => t
  | some k => ⟨shiftedL t.heap, t.list.modify k disarm, t.next⟩
noncomputable def firedL (t : Tms) (now : Int) : Tms := if timersOkB t then firedT t now else zeroT
noncomputable def firedX (t : Tms) (now : Int) : Tm := if timersOkB t then (match firedAt t now with | none => zeroTm | some k => t.list.getD k zeroTm) else zeroTm
noncomputable def firedB (t : Tms) (now : Int) : Bool := timersOkB t && (firedAt t now).isSome
def DoesMF (f : FuncId) (g : Tms → Int → Tms) (x : Tms → Int → Tm) (b : Tms → Int → Bool) : Prop := ∀ (t : Tms) (q : Int) (v : Value) (w : World), RdM w w.heap.size v t → Calls Try.prog f #[v, .int .i64 q] w fun e w' => ∃ u, e = .returned (.tuple #[u, .agg #[.int .i64 (x t q).seq, .int .i64 (x t q).due, .int .i64 (x t q).what, .int .i64 (x t q).whom, .bool (x t q).armed], .bool (b t q)]) ∧ OwnM w' w.heap.size w'.heap.size u (g t q) ∧ Kept 0 0 w w'
theorem DoesMF.at_ {f : FuncId} {g : Tms → Int → Tms} {x : Tms → Int → Tm} {b : Tms → Int → Bool} (h : DoesMF f g x b) (t : Tms) (q : Int) (v : Value) (w : World) (hr : RdM w w.heap.size v t) : Calls Try.prog f #[v, .int .i64 q] w fun e w' => ∃ u, e = .returned (.tuple #[u, .agg #[.int .i64 (x t q).seq, .int .i64 (x t q).due, .int .i64 (x t q).what, .int .i64 (x t q).whom, .bool (x t q).armed], .bool (b t q)]) ∧ OwnM w' w.heap.size w'.heap.size u (g t q) ∧ Kept 0 0 w w' := h t q v w hr
theorem ret_uxb {u : Value} {x x' : Tm} {b b' : Bool} (hx : x = x') (h : b = b') : Ending.returned (.tuple #[u, .agg #[.int .i64 x.seq, .int .i64 x.due, .int .i64 x.what, .int .i64 x.whom, .bool x.armed], .bool b]) = .returned (.tuple #[u, .agg #[.int .i64 x'.seq, .int .i64 x'.due, .int .i64 x'.what, .int .i64 x'.whom, .bool x'.armed], .bool b']) := by rw [h, hx]
theorem ret_u0b {u : Value} {x' : Tm} {b b' : Bool} (hx : x' = zeroTm) (h : b = b') : Ending.returned (.tuple #[u, .agg #[.int .i64 0, .int .i64 0, .int .i64 0, .int .i64 0, .bool false], .bool b]) = .returned (.tuple #[u, .agg #[.int .i64 x'.seq, .int .i64 x'.due, .int .i64 x'.what, .int .i64 x'.whom, .bool x'.armed], .bool b']) := by rw [h, hx]; rfl
/-- The stores into the two result boxes. -/
theorem kept8 (w : World) (g : Nat) (a b c d e f h i : Value) : Kept g (g + 2) w ((((((((w.setCell ⟨g, 0, none⟩ a).setCell ⟨g, 1, none⟩ b).setCell ⟨g, 2, none⟩ c).setCell ⟨g + 1, 0, none⟩ d).setCell ⟨g + 1, 1, none⟩ e).setCell ⟨g + 1, 2, none⟩ f).setCell ⟨g + 1, 3, none⟩ h).setCell ⟨g + 1, 4, none⟩ i) :=
  ((((((((Kept.refl g (g + 2) w).setCell (.inr ⟨Nat.le_refl _, by simp⟩) _).setCell (.inr ⟨Nat.le_refl _, by simp⟩) _).setCell (.inr ⟨Nat.le_refl _, by simp⟩) _).setCell (.inr ⟨by simp, by simp⟩) _).setCell (.inr ⟨by simp, by simp⟩) _).setCell (.inr ⟨by simp, by simp⟩) _).setCell (.inr ⟨by simp, by simp⟩) _).setCell (.inr ⟨by simp, by simp⟩) _
theorem blk3far {w : World} {g k : Nat} {ty : TypeId} {cs : Array Value} (H : Blk w k ty cs) (hk : k ≠ g) (a b c : Value) : Blk (((w.setCell ⟨g, 0, none⟩ a).setCell ⟨g, 1, none⟩ b).setCell ⟨g, 2, none⟩ c) k ty cs :=
  ((H.far (by simpa using hk) _).far (by simpa using hk) _).far (by simpa using hk) _
theorem blk8a {w : World} {g : Nat} {ty : TypeId} {x y z : Value} (H : Blk w g ty #[x, y, z]) (a b c d e f h i : Value) : Blk ((((((((w.setCell ⟨g, 0, none⟩ a).setCell ⟨g, 1, none⟩ b).setCell ⟨g, 2, none⟩ c).setCell ⟨g + 1, 0, none⟩ d).setCell ⟨g + 1, 1, none⟩ e).setCell ⟨g + 1, 2, none⟩ f).setCell ⟨g + 1, 3, none⟩ h).setCell ⟨g + 1, 4, none⟩ i) g ty #[a, b, c] :=
  (((((blk3 H a b c).far (by simp) _).far (by simp) _).far (by simp) _).far (by simp) _).far (by simp) _
theorem blk8b {w : World} {g : Nat} {ty : TypeId} {x y z u v : Value} (H : Blk w (g + 1) ty #[x, y, z, u, v]) (a b c d e f h i : Value) : Blk ((((((((w.setCell ⟨g, 0, none⟩ a).setCell ⟨g, 1, none⟩ b).setCell ⟨g, 2, none⟩ c).setCell ⟨g + 1, 0, none⟩ d).setCell ⟨g + 1, 1, none⟩ e).setCell ⟨g + 1, 2, none⟩ f).setCell ⟨g + 1, 3, none⟩ h).setCell ⟨g + 1, 4, none⟩ i) (g + 1) ty #[d, e, f, h, i] := by
  have := (((((blk3far H (g := g) (by omega) a b c).set_ 0 d).set_ 1 e).set_ 2 f).set_ 3 h).set_ 4 i
  simpa using this

/-- What region 6 reads. -/
theorem held4 {w w' : World} {ad : Addr} {c1 c2 : Nat} {A2 : Option Addr} {t : Tms} {x : Tw} {r : List Tw} (s : SL twR w w.heap.size (some ad) c1 t.heap) (hh : t.heap = x :: r) (e0 : t.heap.length = r.length + 1) (K : Kept 0 0 w w') (B : Blk w' w.heap.size 27 #[.slice (some ad) t.heap.length c1, .slice A2 t.list.length c2, .int .i64 t.next]) :
    w'.cell? ⟨w.heap.size, 0, none⟩ = some (.slice (some ad) (r.length + 1) c1) ∧ w'.cell? ⟨w.heap.size, 1, none⟩ = some (.slice A2 t.list.length c2) ∧ w'.cell? ⟨w.heap.size, 2, none⟩ = some (.int .i64 t.next) ∧ w'.cell? ⟨ad.block, ad.off + 1, none⟩ = some (.int .i64 x.seq) := by
  have s4 := s.kept (Nat.le_refl _) K (.inl (Nat.le_refl _))
  rw [hh] at s4
  obtain ⟨ad', ea, _, _, h1, _⟩ := s4.rd.head
  injection ea with ea
  subst ea
  have b0 := bx0 B
  rw [e0] at b0
  exact ⟨b0, bx1 B, bx2 B, h1⟩

end Go.Proofs.Ytnphjohmkjoefaa
