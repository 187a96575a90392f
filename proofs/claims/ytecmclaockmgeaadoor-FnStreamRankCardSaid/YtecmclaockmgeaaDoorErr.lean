/-
  errors.Is over the one error value of the program: the error itself, nil.
-/
import Derived.Test.YtecmclaockmgeaaDoorRules
import Derived.WalkKit
import Derived.LaidEql
import Derived.Stop.Asserts
import Derived.RowKitTokens
namespace Go.Proofs.YtecmclaockmgeaaDoor
open Go.RowKit Go.Extern.Stop Go.Stop Go.Extern
theorem isTypeOf (v : Value) (w : World) : (Extern.ReflectliteType.typeOf #[.iface 119 v]).run Tryd.prog w = .ok (.iface 108 (.agg #[.pointer (some ⟨1, 119, none⟩)])) w := by kernel_rfl
theorem isComparable : ∃ F : TypeId → Sem Value, Extern.find Tryd.f106 = some (Extern.ReflectliteType.method F) ∧ ∀ w : World, (Extern.ReflectliteType.method F #[.agg #[.pointer (some ⟨1, 119, none⟩)]]).run Tryd.prog w = .ok (.bool true) w :=
  ⟨fun t => do Go.Extern.Rtype.noPackHeld "Comparable" t; pure (.bool (← typeInfo t).comparable), by kernel_rfl, fun w => by kernel_rfl⟩
theorem isMethodComparable (v : Value) (w : World) : (Go.method 257 108 v "Comparable").run Tryd.prog w = .ok (106, v) w := by kernel_rfl
theorem isComp : (Tryd.prog.info? 119).map (·.comparable) = some true := by kernel_rfl
theorem isSize : (Tryd.prog.info? 145).map (·.size) = some 1 := by kernel_rfl
set_option maxRecDepth 100000 in
theorem is_same (a : Addr) (w : World) :
    Calls Tryd.prog 59 #[.iface 119 (.pointer (some a)), .iface 119 (.pointer (some a))] w fun e w' => e = .returned (.bool true) ∧ w' = w := by
  obtain ⟨i, hi, hcmp⟩ := Option.map_eq_some_iff.1 isComp
  obtain ⟨j, hj, hjs⟩ := Option.map_eq_some_iff.1 isSize
  have h8 := @run_callFunc_extern Tryd.prog 70 _ Extern.ReflectliteType.typeOf Tryd.func70 (by kernel_rfl) (by kernel_rfl) (by kernel_rfl) (by kernel_rfl)
  obtain ⟨F, hF, cT⟩ := isComparable
  have h32 := @run_callFunc_extern Tryd.prog 106 _ (Extern.ReflectliteType.method F) Tryd.func106 (by kernel_rfl) (by kernel_rfl) (by kernel_rfl) hF
  have tT := isTypeOf
  have mR := isMethodComparable
  have heq := run_eql_iface_ptr_same (P := Tryd.prog) w a Tryd.underlying82 Tryd.underlying119 hi hcmp hj
  go_enter Tryd.func59, Tryd.ntmps59
  go_wp2
  refine wp_loop_rounds 1 ?_
  rw [rounds_succ]
  go_wp2
  go_ret
  exact ⟨rfl, rfl⟩
set_option maxRecDepth 100000 in
theorem is_nil (b : Addr) (w : World) :
    Calls Tryd.prog 59 #[.nilIface, .iface 119 (.pointer (some b))] w fun e w' => e = .returned (.bool false) ∧ w' = w := by
  have hn := run_eql_iface_nil_left (P := Tryd.prog) w 119 (.pointer (some b)) Tryd.underlying82
  go_enter Tryd.func59, Tryd.ntmps59
  go_wp2
  go_ret
  exact ⟨rfl, rfl⟩
/-- the program's error value -/
def GE (w : World) (a : Addr) : Prop := w.cell? ⟨0, 0, none⟩ = some (.iface 119 (.pointer (some a)))
theorem GE.lt {w : World} {a : Addr} (h : GE w a) : 0 < w.heap.size := cell_lt (p := ⟨0, 0, none⟩) h
theorem GE.below {w w' : World} {a : Addr} (h : GE w a) (k : Below w.heap.size w w') : GE w' a := (keep_of_below k).cell h (fun h => h)
theorem GE.drew {w : World} {a : Addr} (h : GE w a) : GE w.drew a := h
end Go.Proofs.YtecmclaockmgeaaDoor
