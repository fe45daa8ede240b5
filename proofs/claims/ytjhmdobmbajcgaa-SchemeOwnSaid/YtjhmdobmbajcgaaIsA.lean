/- errors.Is at numbers of errors, and at a refusal of package scheme's that wraps one. -/
import Derived.Test.YtjhmdobmbajcgaaHlp
import Derived.LaidEql
import Derived.Stop.Asserts
import Derived.RowKitTokens
namespace Go.Proofs.Ytjhmdobmbajcgaa
open Go.RowKit Go.Extern.Stop Go.Stop Go.Extern
set_option linter.unusedVariables false
set_option linter.unusedSimpArgs false

theorem isTO (v : Value) (w : World) : (Extern.ReflectliteType.typeOf #[.iface 31 v]).run Try.prog w = .ok (.iface 155 (.agg #[.pointer (some ⟨0, 31, none⟩)])) w := by kernel_rfl
theorem isCo (w : World) : ((Extern.ReflectliteType.method fun t => do Extern.Rtype.noPackHeld "Comparable" t; (fun a => Value.bool a.comparable) <$> typeInfo t) #[.agg #[.pointer (some ⟨0, 31, none⟩)]]).run Try.prog w = .ok (.bool true) w := by kernel_rfl
theorem isMC (v : Value) (w : World) : (Go.method 301 155 v "Comparable").run Try.prog w = .ok (117, v) w := by kernel_rfl
theorem eq_errno (a b : Int) (W : World) : (binOp .eql 101 (.iface 31 (.int .i64 a)) (.iface 31 (.int .i64 b))).run Try.prog W = .ok (.bool (a == b)) W := by kernel_rfl
theorem eq_nil1 (a : Int) (W : World) : (binOp .eql 101 .nilIface (.iface 31 (.int .i64 a))).run Try.prog W = .ok (.bool false) W := by kernel_rfl
theorem noIsR (v : Value) (xT : TypeId) (w : World) : (Instr.typeAssert (.iface 138 v) xT 157 true).run Try.prog w = .ok (.tuple #[.nilIface, .bool false]) w := run_typeAssert_lacksB Try.underlying157 (by kernel_rfl) (by kernel_rfl) v xT w
theorem hasUR (v : Value) (xT : TypeId) (w : World) : (Instr.typeAssert (.iface 138 v) xT 160 true).run Try.prog w = .ok (.tuple #[.iface 138 v, .bool true]) w := run_typeAssert_hasB Try.underlying160 (by kernel_rfl) v xT w
theorem methUR (v : Value) (w : World) : (Go.method 301 138 v "Unwrap").run Try.prog w = .ok (113, v) w := by kernel_rfl
theorem noIsE (v : Value) (xT : TypeId) (w : World) : (Instr.typeAssert (.iface 31 v) xT 157 true).run Try.prog w = .ok (.tuple #[.nilIface, .bool false]) w := run_typeAssert_lacksB Try.underlying157 (by kernel_rfl) (by kernel_rfl) v xT w
theorem noUE (v : Value) (xT : TypeId) (w : World) : (Instr.typeAssert (.iface 31 v) xT 160 true).run Try.prog w = .ok (.tuple #[.nilIface, .bool false]) w := run_typeAssert_lacksB Try.underlying160 (by kernel_rfl) (by kernel_rfl) v xT w
theorem noVE (v : Value) (xT : TypeId) (w : World) : (Instr.typeAssert (.iface 31 v) xT 162 true).run Try.prog w = .ok (.tuple #[.nilIface, .bool false]) w := run_typeAssert_lacksB Try.underlying162 (by kernel_rfl) (by kernel_rfl) v xT w
theorem is_nil (k : Int) (w : World) : Calls Try.prog 62 #[.nilIface, .iface 31 (.int .i64 k)] w fun e w' => e = .returned (.bool false) ∧ w' = w := by
  have hn := eq_nil1 k
  go_enter Try.func62, Try.ntmps62
  go_wp2
  go_ret
  exact ⟨rfl, rfl⟩
set_option maxRecDepth 100000 in
set_option maxHeartbeats 2000000 in
/-- a refusal that wraps a number. -/
theorem is_ref (g : Nat) (s : Value) (e k : Int) (w : World) (h1 : w.cell? ⟨g, 1, none⟩ = some (.iface 31 (.int .i64 e))) (q : Bool) (hq : (e == k) = q) :
    Calls Try.prog 62 #[.iface 138 (.pointer (some ⟨g, 0, none⟩)), .iface 31 (.int .i64 k)] w fun e w' => e = .returned (.bool q) ∧ w' = w := by
  have h8 := @run_callFunc_extern Try.prog 85 _ Extern.ReflectliteType.typeOf Try.func85 (by kernel_rfl) (by kernel_rfl) (by kernel_rfl) (by kernel_rfl)
  have h32 := @run_callFunc_extern Try.prog 117 _ (Extern.ReflectliteType.method fun t => do Extern.Rtype.noPackHeld "Comparable" t; pure (.bool (← typeInfo t).comparable)) Try.func117 (by kernel_rfl) (by kernel_rfl) (by kernel_rfl) (by kernel_rfl)
  have tT := isTO
  have cT := isCo
  have mR := isMC
  have n1 := noIsR
  have n2 := hasUR
  have n3 := methUR
  have n4 := noIsE
  have n5 := noUE
  have n6 := noVE
  have e1 := eq_errno e k
  have e2 := run_eql_iface_types (P := Try.prog) 138 31 (.pointer (some ⟨g, 0, none⟩)) (.int .i64 k) Try.underlying101 (by decide) w
  rw [hq] at e1
  cases q
  · go_enter Try.func62, Try.ntmps62
    go_wp2
    refine wp_loop_rounds 2 ?_
    rw [rounds_succ]
    go_wp2
    rw [rounds_succ]
    go_wp2
    go_ret
    exact ⟨rfl, rfl⟩
  · go_enter Try.func62, Try.ntmps62
    go_wp2
    refine wp_loop_rounds 2 ?_
    rw [rounds_succ]
    go_wp2
    rw [rounds_succ]
    go_wp2
    go_ret
    exact ⟨rfl, rfl⟩
end Go.Proofs.Ytjhmdobmbajcgaa
