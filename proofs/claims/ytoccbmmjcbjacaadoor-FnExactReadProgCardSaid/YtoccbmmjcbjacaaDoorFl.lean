/- The program's instructionOf: which instruction stands for an operation, as an interface value; the ranges of its operands; no condition. -/
import Derived.Test.YtoccbmmjcbjacaaDoorFd
namespace Go.Proofs.YtoccbmmjcbjacaaDoor
open Go.RowKit Go.Sort

/-- The instruction of operation k, as an interface value: its type, what it holds. -/
def kTy : Nat → TypeId
  | 0 => 94
  | 1 => 95
  | 2 => 96
  | 3 => 97
  | 4 => 98
  | 5 => 99
  | 6 => 100
  | 7 => 101
  | 8 => 102
  | 9 => 103
  | _ => 104
def kPay : Nat → Value
  | 0 => .agg #[.string { data := #[101, 110, 100] }]
  | 1 => .agg #[.string { data := #[101, 114, 114] }]
  | 2 => .agg #[.string { data := #[119, 97, 105, 116] }]
  | 3 => .agg #[.string { data := #[115, 108, 101, 101, 112] }]
  | 4 => .agg #[.string { data := #[99, 97, 110, 99, 101, 108] }]
  | 5 => .agg #[.string { data := #[105, 102] }]
  | 6 => .agg #[.string { data := #[103, 111] }]
  | 7 => .agg #[.string { data := #[116, 114, 121] }]
  | 8 => .agg #[.string { data := #[106, 111, 105, 110] }]
  | 9 => .agg #[.string { data := #[99, 104, 105, 108, 100] }]
  | _ => .agg #[.string { data := #[107, 101, 121] }]
def kindV (k : Nat) : Value := .iface (kTy k) (kPay k)
def instrV (op : Int) : Value := if 0 ≤ op ∧ op ≤ 10 then kindV op.toNat else .nilIface
set_option maxHeartbeats 1600000 in
theorem instr_at (op : Int) (w : World) : Calls Tryd.prog 43 #[.int .i64 op] w fun e w' => e = .returned (instrV op) ∧ w' = w := by
  by_cases h0 : op = 0
  · subst h0
    go_enter Tryd.func43, Tryd.ntmps43
    go_wp2
    go_ret
    exact ⟨rfl, rfl⟩
  by_cases h1 : op = 1
  · subst h1
    go_enter Tryd.func43, Tryd.ntmps43
    go_wp2
    go_ret
    exact ⟨rfl, rfl⟩
  by_cases h2 : op = 2
  · subst h2
    go_enter Tryd.func43, Tryd.ntmps43
    go_wp2
    go_ret
    exact ⟨rfl, rfl⟩
  by_cases h3 : op = 3
  · subst h3
    go_enter Tryd.func43, Tryd.ntmps43
    go_wp2
    go_ret
    exact ⟨rfl, rfl⟩
  by_cases h4 : op = 4
  · subst h4
    go_enter Tryd.func43, Tryd.ntmps43
    go_wp2
    go_ret
    exact ⟨rfl, rfl⟩
  by_cases h5 : op = 5
  · subst h5
    go_enter Tryd.func43, Tryd.ntmps43
    go_wp2
    go_ret
    exact ⟨rfl, rfl⟩
  by_cases h6 : op = 6
  · subst h6
    go_enter Tryd.func43, Tryd.ntmps43
    go_wp2
    go_ret
    exact ⟨rfl, rfl⟩
  by_cases h7 : op = 7
  · subst h7
    go_enter Tryd.func43, Tryd.ntmps43
    go_wp2
    go_ret
    exact ⟨rfl, rfl⟩
  by_cases h8 : op = 8
  · subst h8
    go_enter Tryd.func43, Tryd.ntmps43
    go_wp2
    go_ret
    exact ⟨rfl, rfl⟩
  by_cases h9 : op = 9
  · subst h9
    go_enter Tryd.func43, Tryd.ntmps43
    go_wp2
    go_ret
    exact ⟨rfl, rfl⟩
  by_cases h10 : op = 10
  · subst h10
    go_enter Tryd.func43, Tryd.ntmps43
    go_wp2
    go_ret
    exact ⟨rfl, rfl⟩
  have E : Hid (instrV op = .nilIface) := by show _ = _; unfold instrV; rw [if_neg (by omega)]
  go_enter Tryd.func43, Tryd.ntmps43
  go_wp2
  go_ret
  exact ⟨by rw [E.out]; rfl, rfl⟩
def rngV (r : Int × Int) : Value := .agg #[.int .i64 r.1, .int .i64 r.2]
/-- The ranges of the operands of operation k: of the first one, of the second one. -/
def rngA : Nat → Int × Int
  | 0 => (0, 90)
  | 1 => (-1, 59)
  | 2 => (-1, 59)
  | 3 => (-1, 59)
  | 4 => (-1, 59)
  | 5 => (0, 12)
  | 6 => (0, 7)
  | 7 => (0, 7)
  | 8 => (0, 7)
  | 9 => (-1, 59)
  | _ => (-1, 59)
def rngB : Nat → Int × Int
  | 0 => (0, 0)
  | 1 => (0, 0)
  | 2 => (0, 0)
  | 3 => (0, 1000)
  | 4 => (0, 999)
  | 5 => (0, 0)
  | 6 => (0, 7)
  | 7 => (0, 7)
  | 8 => (0, 0)
  | 9 => (0, 0)
  | _ => (1, 9)
section
variable (W : World) (v : Value)
theorem asrt_yes0 : (Instr.typeAssert (.iface 94 v) 63 94 true).run Tryd.prog W = .ok (.tuple #[v, .bool true]) W := by kernel_rfl
theorem asrt_zero0 : (do pure (Value.tuple #[← zeroValue 94, .bool false]) : Sem Value).run Tryd.prog W = .ok (.tuple #[.agg #[.string ⟨#[]⟩], .bool false]) W := by kernel_rfl
theorem asrt_no0 (u : TypeId) (h : u ≠ 94) : (Instr.typeAssert (.iface u v) 63 94 true).run Tryd.prog W = .ok (.tuple #[.agg #[.string ⟨#[]⟩], .bool false]) W := by
  have e : (Instr.typeAssert (.iface u v) 63 94 true).run Tryd.prog W = (if u = 94 then (pure (Value.tuple #[v, .bool true]) : Sem Value) else (do pure (Value.tuple #[← zeroValue 94, .bool false]))).run Tryd.prog W := by kernel_rfl
  rw [e, if_neg h]
  exact asrt_zero0 W
theorem asrt_yes1 : (Instr.typeAssert (.iface 95 v) 63 95 true).run Tryd.prog W = .ok (.tuple #[v, .bool true]) W := by kernel_rfl
theorem asrt_zero1 : (do pure (Value.tuple #[← zeroValue 95, .bool false]) : Sem Value).run Tryd.prog W = .ok (.tuple #[.agg #[.string ⟨#[]⟩], .bool false]) W := by kernel_rfl
theorem asrt_no1 (u : TypeId) (h : u ≠ 95) : (Instr.typeAssert (.iface u v) 63 95 true).run Tryd.prog W = .ok (.tuple #[.agg #[.string ⟨#[]⟩], .bool false]) W := by
  have e : (Instr.typeAssert (.iface u v) 63 95 true).run Tryd.prog W = (if u = 95 then (pure (Value.tuple #[v, .bool true]) : Sem Value) else (do pure (Value.tuple #[← zeroValue 95, .bool false]))).run Tryd.prog W := by kernel_rfl
  rw [e, if_neg h]
  exact asrt_zero1 W
theorem asrt_yes2 : (Instr.typeAssert (.iface 96 v) 63 96 true).run Tryd.prog W = .ok (.tuple #[v, .bool true]) W := by kernel_rfl
theorem asrt_zero2 : (do pure (Value.tuple #[← zeroValue 96, .bool false]) : Sem Value).run Tryd.prog W = .ok (.tuple #[.agg #[.string ⟨#[]⟩], .bool false]) W := by kernel_rfl
theorem asrt_no2 (u : TypeId) (h : u ≠ 96) : (Instr.typeAssert (.iface u v) 63 96 true).run Tryd.prog W = .ok (.tuple #[.agg #[.string ⟨#[]⟩], .bool false]) W := by
  have e : (Instr.typeAssert (.iface u v) 63 96 true).run Tryd.prog W = (if u = 96 then (pure (Value.tuple #[v, .bool true]) : Sem Value) else (do pure (Value.tuple #[← zeroValue 96, .bool false]))).run Tryd.prog W := by kernel_rfl
  rw [e, if_neg h]
  exact asrt_zero2 W
theorem asrt_yes3 : (Instr.typeAssert (.iface 97 v) 63 97 true).run Tryd.prog W = .ok (.tuple #[v, .bool true]) W := by kernel_rfl
theorem asrt_zero3 : (do pure (Value.tuple #[← zeroValue 97, .bool false]) : Sem Value).run Tryd.prog W = .ok (.tuple #[.agg #[.string ⟨#[]⟩], .bool false]) W := by kernel_rfl
theorem asrt_no3 (u : TypeId) (h : u ≠ 97) : (Instr.typeAssert (.iface u v) 63 97 true).run Tryd.prog W = .ok (.tuple #[.agg #[.string ⟨#[]⟩], .bool false]) W := by
  have e : (Instr.typeAssert (.iface u v) 63 97 true).run Tryd.prog W = (if u = 97 then (pure (Value.tuple #[v, .bool true]) : Sem Value) else (do pure (Value.tuple #[← zeroValue 97, .bool false]))).run Tryd.prog W := by kernel_rfl
  rw [e, if_neg h]
  exact asrt_zero3 W
theorem asrt_yes4 : (Instr.typeAssert (.iface 98 v) 63 98 true).run Tryd.prog W = .ok (.tuple #[v, .bool true]) W := by kernel_rfl
theorem asrt_zero4 : (do pure (Value.tuple #[← zeroValue 98, .bool false]) : Sem Value).run Tryd.prog W = .ok (.tuple #[.agg #[.string ⟨#[]⟩], .bool false]) W := by kernel_rfl
theorem asrt_no4 (u : TypeId) (h : u ≠ 98) : (Instr.typeAssert (.iface u v) 63 98 true).run Tryd.prog W = .ok (.tuple #[.agg #[.string ⟨#[]⟩], .bool false]) W := by
  have e : (Instr.typeAssert (.iface u v) 63 98 true).run Tryd.prog W = (if u = 98 then (pure (Value.tuple #[v, .bool true]) : Sem Value) else (do pure (Value.tuple #[← zeroValue 98, .bool false]))).run Tryd.prog W := by kernel_rfl
  rw [e, if_neg h]
  exact asrt_zero4 W
theorem asrt_yes5 : (Instr.typeAssert (.iface 99 v) 63 99 true).run Tryd.prog W = .ok (.tuple #[v, .bool true]) W := by kernel_rfl
theorem asrt_zero5 : (do pure (Value.tuple #[← zeroValue 99, .bool false]) : Sem Value).run Tryd.prog W = .ok (.tuple #[.agg #[.string ⟨#[]⟩], .bool false]) W := by kernel_rfl
theorem asrt_no5 (u : TypeId) (h : u ≠ 99) : (Instr.typeAssert (.iface u v) 63 99 true).run Tryd.prog W = .ok (.tuple #[.agg #[.string ⟨#[]⟩], .bool false]) W := by
  have e : (Instr.typeAssert (.iface u v) 63 99 true).run Tryd.prog W = (if u = 99 then (pure (Value.tuple #[v, .bool true]) : Sem Value) else (do pure (Value.tuple #[← zeroValue 99, .bool false]))).run Tryd.prog W := by kernel_rfl
  rw [e, if_neg h]
  exact asrt_zero5 W
theorem asrt_yes6 : (Instr.typeAssert (.iface 100 v) 63 100 true).run Tryd.prog W = .ok (.tuple #[v, .bool true]) W := by kernel_rfl
theorem asrt_zero6 : (do pure (Value.tuple #[← zeroValue 100, .bool false]) : Sem Value).run Tryd.prog W = .ok (.tuple #[.agg #[.string ⟨#[]⟩], .bool false]) W := by kernel_rfl
theorem asrt_no6 (u : TypeId) (h : u ≠ 100) : (Instr.typeAssert (.iface u v) 63 100 true).run Tryd.prog W = .ok (.tuple #[.agg #[.string ⟨#[]⟩], .bool false]) W := by
  have e : (Instr.typeAssert (.iface u v) 63 100 true).run Tryd.prog W = (if u = 100 then (pure (Value.tuple #[v, .bool true]) : Sem Value) else (do pure (Value.tuple #[← zeroValue 100, .bool false]))).run Tryd.prog W := by kernel_rfl
  rw [e, if_neg h]
  exact asrt_zero6 W
theorem asrt_yes7 : (Instr.typeAssert (.iface 101 v) 63 101 true).run Tryd.prog W = .ok (.tuple #[v, .bool true]) W := by kernel_rfl
theorem asrt_zero7 : (do pure (Value.tuple #[← zeroValue 101, .bool false]) : Sem Value).run Tryd.prog W = .ok (.tuple #[.agg #[.string ⟨#[]⟩], .bool false]) W := by kernel_rfl
theorem asrt_no7 (u : TypeId) (h : u ≠ 101) : (Instr.typeAssert (.iface u v) 63 101 true).run Tryd.prog W = .ok (.tuple #[.agg #[.string ⟨#[]⟩], .bool false]) W := by
  have e : (Instr.typeAssert (.iface u v) 63 101 true).run Tryd.prog W = (if u = 101 then (pure (Value.tuple #[v, .bool true]) : Sem Value) else (do pure (Value.tuple #[← zeroValue 101, .bool false]))).run Tryd.prog W := by kernel_rfl
  rw [e, if_neg h]
  exact asrt_zero7 W
theorem asrt_yes8 : (Instr.typeAssert (.iface 102 v) 63 102 true).run Tryd.prog W = .ok (.tuple #[v, .bool true]) W := by kernel_rfl
theorem asrt_zero8 : (do pure (Value.tuple #[← zeroValue 102, .bool false]) : Sem Value).run Tryd.prog W = .ok (.tuple #[.agg #[.string ⟨#[]⟩], .bool false]) W := by kernel_rfl
theorem asrt_no8 (u : TypeId) (h : u ≠ 102) : (Instr.typeAssert (.iface u v) 63 102 true).run Tryd.prog W = .ok (.tuple #[.agg #[.string ⟨#[]⟩], .bool false]) W := by
  have e : (Instr.typeAssert (.iface u v) 63 102 true).run Tryd.prog W = (if u = 102 then (pure (Value.tuple #[v, .bool true]) : Sem Value) else (do pure (Value.tuple #[← zeroValue 102, .bool false]))).run Tryd.prog W := by kernel_rfl
  rw [e, if_neg h]
  exact asrt_zero8 W
theorem asrt_yes9 : (Instr.typeAssert (.iface 103 v) 63 103 true).run Tryd.prog W = .ok (.tuple #[v, .bool true]) W := by kernel_rfl
theorem asrt_zero9 : (do pure (Value.tuple #[← zeroValue 103, .bool false]) : Sem Value).run Tryd.prog W = .ok (.tuple #[.agg #[.string ⟨#[]⟩], .bool false]) W := by kernel_rfl
theorem asrt_no9 (u : TypeId) (h : u ≠ 103) : (Instr.typeAssert (.iface u v) 63 103 true).run Tryd.prog W = .ok (.tuple #[.agg #[.string ⟨#[]⟩], .bool false]) W := by
  have e : (Instr.typeAssert (.iface u v) 63 103 true).run Tryd.prog W = (if u = 103 then (pure (Value.tuple #[v, .bool true]) : Sem Value) else (do pure (Value.tuple #[← zeroValue 103, .bool false]))).run Tryd.prog W := by kernel_rfl
  rw [e, if_neg h]
  exact asrt_zero9 W
theorem asrt_yes10 : (Instr.typeAssert (.iface 104 v) 63 104 true).run Tryd.prog W = .ok (.tuple #[v, .bool true]) W := by kernel_rfl
theorem asrt_zero10 : (do pure (Value.tuple #[← zeroValue 104, .bool false]) : Sem Value).run Tryd.prog W = .ok (.tuple #[.agg #[.string ⟨#[]⟩], .bool false]) W := by kernel_rfl
theorem asrt_no10 (u : TypeId) (h : u ≠ 104) : (Instr.typeAssert (.iface u v) 63 104 true).run Tryd.prog W = .ok (.tuple #[.agg #[.string ⟨#[]⟩], .bool false]) W := by
  have e : (Instr.typeAssert (.iface u v) 63 104 true).run Tryd.prog W = (if u = 104 then (pure (Value.tuple #[v, .bool true]) : Sem Value) else (do pure (Value.tuple #[← zeroValue 104, .bool false]))).run Tryd.prog W := by kernel_rfl
  rw [e, if_neg h]
  exact asrt_zero10 W
end
set_option maxHeartbeats 1600000 in
theorem oper_0 (w : World) : Calls Tryd.prog 45 #[kindV 0] w fun e w' => e = .returned (.tuple #[rngV (rngA 0), rngV (rngB 0)]) ∧ Kept 0 0 w w' := by
  unfold kindV kTy kPay
  have a0 := fun W => asrt_yes0 W (.agg #[.string { data := #[101, 110, 100] }])
  go_enter Tryd.func45, Tryd.ntmps45
  go_wp2
  exact bodyPost_ret (v := .tuple #[rngV (rngA 0), rngV (rngB 0)]) (by simp [results, Tryd.results45, go_sem]; exact ⟨rfl, rfl⟩) rfl ⟨rfl, (((Kept.alloc0 _ _).alloc _).alloc _).alloc _⟩
set_option maxHeartbeats 1600000 in
theorem oper_1 (w : World) : Calls Tryd.prog 45 #[kindV 1] w fun e w' => e = .returned (.tuple #[rngV (rngA 1), rngV (rngB 1)]) ∧ Kept 0 0 w w' := by
  unfold kindV kTy kPay
  have a0 := fun W => asrt_no0 W (.agg #[.string { data := #[101, 114, 114] }]) 95 (by decide)
  have a1 := fun W => asrt_yes1 W (.agg #[.string { data := #[101, 114, 114] }])
  have a2 := fun W => asrt_no2 W (.agg #[.string { data := #[101, 114, 114] }]) 95 (by decide)
  have a9 := fun W => asrt_no9 W (.agg #[.string { data := #[101, 114, 114] }]) 95 (by decide)
  go_enter Tryd.func45, Tryd.ntmps45
  go_wp2
  exact bodyPost_ret (v := .tuple #[rngV (rngA 1), rngV (rngB 1)]) (by simp [results, Tryd.results45, go_sem]; exact ⟨rfl, rfl⟩) rfl ⟨rfl, (((Kept.alloc0 _ _).alloc _).alloc _).alloc _⟩
set_option maxHeartbeats 1600000 in
theorem oper_2 (w : World) : Calls Tryd.prog 45 #[kindV 2] w fun e w' => e = .returned (.tuple #[rngV (rngA 2), rngV (rngB 2)]) ∧ Kept 0 0 w w' := by
  unfold kindV kTy kPay
  have a0 := fun W => asrt_no0 W (.agg #[.string { data := #[119, 97, 105, 116] }]) 96 (by decide)
  have a1 := fun W => asrt_no1 W (.agg #[.string { data := #[119, 97, 105, 116] }]) 96 (by decide)
  have a2 := fun W => asrt_yes2 W (.agg #[.string { data := #[119, 97, 105, 116] }])
  have a9 := fun W => asrt_no9 W (.agg #[.string { data := #[119, 97, 105, 116] }]) 96 (by decide)
  go_enter Tryd.func45, Tryd.ntmps45
  go_wp2
  exact bodyPost_ret (v := .tuple #[rngV (rngA 2), rngV (rngB 2)]) (by simp [results, Tryd.results45, go_sem]; exact ⟨rfl, rfl⟩) rfl ⟨rfl, (((Kept.alloc0 _ _).alloc _).alloc _).alloc _⟩
set_option maxHeartbeats 1600000 in
theorem oper_3 (w : World) : Calls Tryd.prog 45 #[kindV 3] w fun e w' => e = .returned (.tuple #[rngV (rngA 3), rngV (rngB 3)]) ∧ Kept 0 0 w w' := by
  unfold kindV kTy kPay
  have a0 := fun W => asrt_no0 W (.agg #[.string { data := #[115, 108, 101, 101, 112] }]) 97 (by decide)
  have a1 := fun W => asrt_no1 W (.agg #[.string { data := #[115, 108, 101, 101, 112] }]) 97 (by decide)
  have a2 := fun W => asrt_no2 W (.agg #[.string { data := #[115, 108, 101, 101, 112] }]) 97 (by decide)
  have a9 := fun W => asrt_no9 W (.agg #[.string { data := #[115, 108, 101, 101, 112] }]) 97 (by decide)
  have a3 := fun W => asrt_yes3 W (.agg #[.string { data := #[115, 108, 101, 101, 112] }])
  go_enter Tryd.func45, Tryd.ntmps45
  go_wp2
  exact bodyPost_ret (v := .tuple #[rngV (rngA 3), rngV (rngB 3)]) (by simp [results, Tryd.results45, go_sem]; exact ⟨rfl, rfl⟩) rfl ⟨rfl, (((Kept.alloc0 _ _).alloc _).alloc _).alloc _⟩
set_option maxHeartbeats 1600000 in
theorem oper_4 (w : World) : Calls Tryd.prog 45 #[kindV 4] w fun e w' => e = .returned (.tuple #[rngV (rngA 4), rngV (rngB 4)]) ∧ Kept 0 0 w w' := by
  unfold kindV kTy kPay
  have a0 := fun W => asrt_no0 W (.agg #[.string { data := #[99, 97, 110, 99, 101, 108] }]) 98 (by decide)
  have a1 := fun W => asrt_no1 W (.agg #[.string { data := #[99, 97, 110, 99, 101, 108] }]) 98 (by decide)
  have a2 := fun W => asrt_no2 W (.agg #[.string { data := #[99, 97, 110, 99, 101, 108] }]) 98 (by decide)
  have a9 := fun W => asrt_no9 W (.agg #[.string { data := #[99, 97, 110, 99, 101, 108] }]) 98 (by decide)
  have a3 := fun W => asrt_no3 W (.agg #[.string { data := #[99, 97, 110, 99, 101, 108] }]) 98 (by decide)
  have a4 := fun W => asrt_yes4 W (.agg #[.string { data := #[99, 97, 110, 99, 101, 108] }])
  go_enter Tryd.func45, Tryd.ntmps45
  go_wp2
  exact bodyPost_ret (v := .tuple #[rngV (rngA 4), rngV (rngB 4)]) (by simp [results, Tryd.results45, go_sem]; exact ⟨rfl, rfl⟩) rfl ⟨rfl, (((Kept.alloc0 _ _).alloc _).alloc _).alloc _⟩
set_option maxHeartbeats 1600000 in
theorem oper_5 (w : World) : Calls Tryd.prog 45 #[kindV 5] w fun e w' => e = .returned (.tuple #[rngV (rngA 5), rngV (rngB 5)]) ∧ Kept 0 0 w w' := by
  unfold kindV kTy kPay
  have a0 := fun W => asrt_no0 W (.agg #[.string { data := #[105, 102] }]) 99 (by decide)
  have a1 := fun W => asrt_no1 W (.agg #[.string { data := #[105, 102] }]) 99 (by decide)
  have a2 := fun W => asrt_no2 W (.agg #[.string { data := #[105, 102] }]) 99 (by decide)
  have a9 := fun W => asrt_no9 W (.agg #[.string { data := #[105, 102] }]) 99 (by decide)
  have a3 := fun W => asrt_no3 W (.agg #[.string { data := #[105, 102] }]) 99 (by decide)
  have a4 := fun W => asrt_no4 W (.agg #[.string { data := #[105, 102] }]) 99 (by decide)
  have a5 := fun W => asrt_yes5 W (.agg #[.string { data := #[105, 102] }])
  go_enter Tryd.func45, Tryd.ntmps45
  go_wp2
  exact bodyPost_ret (v := .tuple #[rngV (rngA 5), rngV (rngB 5)]) (by simp [results, Tryd.results45, go_sem]; exact ⟨rfl, rfl⟩) rfl ⟨rfl, (((Kept.alloc0 _ _).alloc _).alloc _).alloc _⟩
set_option maxHeartbeats 1600000 in
theorem oper_6 (w : World) : Calls Tryd.prog 45 #[kindV 6] w fun e w' => e = .returned (.tuple #[rngV (rngA 6), rngV (rngB 6)]) ∧ Kept 0 0 w w' := by
  unfold kindV kTy kPay
  have a0 := fun W => asrt_no0 W (.agg #[.string { data := #[103, 111] }]) 100 (by decide)
  have a1 := fun W => asrt_no1 W (.agg #[.string { data := #[103, 111] }]) 100 (by decide)
  have a2 := fun W => asrt_no2 W (.agg #[.string { data := #[103, 111] }]) 100 (by decide)
  have a9 := fun W => asrt_no9 W (.agg #[.string { data := #[103, 111] }]) 100 (by decide)
  have a3 := fun W => asrt_no3 W (.agg #[.string { data := #[103, 111] }]) 100 (by decide)
  have a4 := fun W => asrt_no4 W (.agg #[.string { data := #[103, 111] }]) 100 (by decide)
  have a5 := fun W => asrt_no5 W (.agg #[.string { data := #[103, 111] }]) 100 (by decide)
  have a6 := fun W => asrt_yes6 W (.agg #[.string { data := #[103, 111] }])
  have a7 := fun W => asrt_no7 W (.agg #[.string { data := #[103, 111] }]) 100 (by decide)
  go_enter Tryd.func45, Tryd.ntmps45
  go_wp2
  exact bodyPost_ret (v := .tuple #[rngV (rngA 6), rngV (rngB 6)]) (by simp [results, Tryd.results45, go_sem]; exact ⟨rfl, rfl⟩) rfl ⟨rfl, (((Kept.alloc0 _ _).alloc _).alloc _).alloc _⟩
set_option maxHeartbeats 1600000 in
theorem oper_7 (w : World) : Calls Tryd.prog 45 #[kindV 7] w fun e w' => e = .returned (.tuple #[rngV (rngA 7), rngV (rngB 7)]) ∧ Kept 0 0 w w' := by
  unfold kindV kTy kPay
  have a0 := fun W => asrt_no0 W (.agg #[.string { data := #[116, 114, 121] }]) 101 (by decide)
  have a1 := fun W => asrt_no1 W (.agg #[.string { data := #[116, 114, 121] }]) 101 (by decide)
  have a2 := fun W => asrt_no2 W (.agg #[.string { data := #[116, 114, 121] }]) 101 (by decide)
  have a9 := fun W => asrt_no9 W (.agg #[.string { data := #[116, 114, 121] }]) 101 (by decide)
  have a3 := fun W => asrt_no3 W (.agg #[.string { data := #[116, 114, 121] }]) 101 (by decide)
  have a4 := fun W => asrt_no4 W (.agg #[.string { data := #[116, 114, 121] }]) 101 (by decide)
  have a5 := fun W => asrt_no5 W (.agg #[.string { data := #[116, 114, 121] }]) 101 (by decide)
  have a6 := fun W => asrt_no6 W (.agg #[.string { data := #[116, 114, 121] }]) 101 (by decide)
  have a7 := fun W => asrt_yes7 W (.agg #[.string { data := #[116, 114, 121] }])
  go_enter Tryd.func45, Tryd.ntmps45
  go_wp2
  exact bodyPost_ret (v := .tuple #[rngV (rngA 7), rngV (rngB 7)]) (by simp [results, Tryd.results45, go_sem]; exact ⟨rfl, rfl⟩) rfl ⟨rfl, (((Kept.alloc0 _ _).alloc _).alloc _).alloc _⟩
set_option maxHeartbeats 1600000 in
theorem oper_8 (w : World) : Calls Tryd.prog 45 #[kindV 8] w fun e w' => e = .returned (.tuple #[rngV (rngA 8), rngV (rngB 8)]) ∧ Kept 0 0 w w' := by
  unfold kindV kTy kPay
  have a0 := fun W => asrt_no0 W (.agg #[.string { data := #[106, 111, 105, 110] }]) 102 (by decide)
  have a1 := fun W => asrt_no1 W (.agg #[.string { data := #[106, 111, 105, 110] }]) 102 (by decide)
  have a2 := fun W => asrt_no2 W (.agg #[.string { data := #[106, 111, 105, 110] }]) 102 (by decide)
  have a9 := fun W => asrt_no9 W (.agg #[.string { data := #[106, 111, 105, 110] }]) 102 (by decide)
  have a3 := fun W => asrt_no3 W (.agg #[.string { data := #[106, 111, 105, 110] }]) 102 (by decide)
  have a4 := fun W => asrt_no4 W (.agg #[.string { data := #[106, 111, 105, 110] }]) 102 (by decide)
  have a5 := fun W => asrt_no5 W (.agg #[.string { data := #[106, 111, 105, 110] }]) 102 (by decide)
  have a6 := fun W => asrt_no6 W (.agg #[.string { data := #[106, 111, 105, 110] }]) 102 (by decide)
  have a7 := fun W => asrt_no7 W (.agg #[.string { data := #[106, 111, 105, 110] }]) 102 (by decide)
  have a8 := fun W => asrt_yes8 W (.agg #[.string { data := #[106, 111, 105, 110] }])
  go_enter Tryd.func45, Tryd.ntmps45
  go_wp2
  exact bodyPost_ret (v := .tuple #[rngV (rngA 8), rngV (rngB 8)]) (by simp [results, Tryd.results45, go_sem]; exact ⟨rfl, rfl⟩) rfl ⟨rfl, (((Kept.alloc0 _ _).alloc _).alloc _).alloc _⟩
set_option maxHeartbeats 1600000 in
theorem oper_9 (w : World) : Calls Tryd.prog 45 #[kindV 9] w fun e w' => e = .returned (.tuple #[rngV (rngA 9), rngV (rngB 9)]) ∧ Kept 0 0 w w' := by
  unfold kindV kTy kPay
  have a0 := fun W => asrt_no0 W (.agg #[.string { data := #[99, 104, 105, 108, 100] }]) 103 (by decide)
  have a1 := fun W => asrt_no1 W (.agg #[.string { data := #[99, 104, 105, 108, 100] }]) 103 (by decide)
  have a2 := fun W => asrt_no2 W (.agg #[.string { data := #[99, 104, 105, 108, 100] }]) 103 (by decide)
  have a9 := fun W => asrt_yes9 W (.agg #[.string { data := #[99, 104, 105, 108, 100] }])
  go_enter Tryd.func45, Tryd.ntmps45
  go_wp2
  exact bodyPost_ret (v := .tuple #[rngV (rngA 9), rngV (rngB 9)]) (by simp [results, Tryd.results45, go_sem]; exact ⟨rfl, rfl⟩) rfl ⟨rfl, (((Kept.alloc0 _ _).alloc _).alloc _).alloc _⟩
set_option maxHeartbeats 1600000 in
theorem oper_10 (w : World) : Calls Tryd.prog 45 #[kindV 10] w fun e w' => e = .returned (.tuple #[rngV (rngA 10), rngV (rngB 10)]) ∧ Kept 0 0 w w' := by
  unfold kindV kTy kPay
  have a0 := fun W => asrt_no0 W (.agg #[.string { data := #[107, 101, 121] }]) 104 (by decide)
  have a1 := fun W => asrt_no1 W (.agg #[.string { data := #[107, 101, 121] }]) 104 (by decide)
  have a2 := fun W => asrt_no2 W (.agg #[.string { data := #[107, 101, 121] }]) 104 (by decide)
  have a9 := fun W => asrt_no9 W (.agg #[.string { data := #[107, 101, 121] }]) 104 (by decide)
  have a3 := fun W => asrt_no3 W (.agg #[.string { data := #[107, 101, 121] }]) 104 (by decide)
  have a4 := fun W => asrt_no4 W (.agg #[.string { data := #[107, 101, 121] }]) 104 (by decide)
  have a5 := fun W => asrt_no5 W (.agg #[.string { data := #[107, 101, 121] }]) 104 (by decide)
  have a6 := fun W => asrt_no6 W (.agg #[.string { data := #[107, 101, 121] }]) 104 (by decide)
  have a7 := fun W => asrt_no7 W (.agg #[.string { data := #[107, 101, 121] }]) 104 (by decide)
  have a8 := fun W => asrt_no8 W (.agg #[.string { data := #[107, 101, 121] }]) 104 (by decide)
  have a10 := fun W => asrt_yes10 W (.agg #[.string { data := #[107, 101, 121] }])
  go_enter Tryd.func45, Tryd.ntmps45
  go_wp2
  exact bodyPost_ret (v := .tuple #[rngV (rngA 10), rngV (rngB 10)]) (by simp [results, Tryd.results45, go_sem]; exact ⟨rfl, rfl⟩) rfl ⟨rfl, (((Kept.alloc0 _ _).alloc _).alloc _).alloc _⟩
theorem oper_any (k : Nat) (hk : k < 11) (w : World) : Calls Tryd.prog 45 #[kindV k] w fun e w' => e = .returned (.tuple #[rngV (rngA k), rngV (rngB k)]) ∧ Kept 0 0 w w' := by
  match k, hk with
  | 0, _ => exact oper_0 w
  | 1, _ => exact oper_1 w
  | 2, _ => exact oper_2 w
  | 3, _ => exact oper_3 w
  | 4, _ => exact oper_4 w
  | 5, _ => exact oper_5 w
  | 6, _ => exact oper_6 w
  | 7, _ => exact oper_7 w
  | 8, _ => exact oper_8 w
  | 9, _ => exact oper_9 w
  | 10, _ => exact oper_10 w

def hasB (r : Int × Int) (n : Int) : Bool := decide (r.1 ≤ n) && decide (n ≤ r.2)
set_option maxHeartbeats 1600000 in
theorem has_any (r : Int × Int) (n : Int) (w : World) : Calls Tryd.prog 52 #[rngV r, .int .i64 n] w fun e w' => e = .returned (.bool (hasB r n)) ∧ Kept 0 0 w w' := by
  obtain ⟨lo, hi⟩ := r
  unfold rngV
  by_cases h1 : lo ≤ n
  case neg =>
    have E : Hid (hasB (lo, hi) n = false) := by show _ = _; simp [hasB]; omega
    have g1 : decide (lo ≤ n) = false := by simpa using h1
    go_enter Tryd.func52, Tryd.ntmps52
    go_wp2
    go_ret
    exact ⟨ret_bool E.out.symm, Kept.alloc0 _ _⟩
  have g1 : decide (lo ≤ n) = true := by simpa using h1
  by_cases h2 : n ≤ hi
  case neg =>
    have E : Hid (hasB (lo, hi) n = false) := by show _ = _; simp [hasB]; omega
    have g2 : decide (n ≤ hi) = false := by simpa using h2
    go_enter Tryd.func52, Tryd.ntmps52
    go_wp2
    go_ret
    exact ⟨ret_bool E.out.symm, Kept.alloc0 _ _⟩
  have E : Hid (hasB (lo, hi) n = true) := by show _ = _; simp [hasB]; omega
  have g2 : decide (n ≤ hi) = true := by simpa using h2
  go_enter Tryd.func52, Tryd.ntmps52
  go_wp2
  go_ret
  exact ⟨ret_bool E.out.symm, Kept.alloc0 _ _⟩

end Go.Proofs.YtoccbmmjcbjacaaDoor
