/-
  What the listed package-level variable gives: the error's cell; a world that meets the condition.
-/
import Derived.Test.YtbpndmcejbiedaaDoorRows
import Derived.Test.YtbpndmcejbiedaaDoorErr
import Derived.ChangeSame
import Derived.ChangeVars
import Derived.JoinedOf
import Derived.RowKit
import Derived.RowKitTokens
import Derived.LaidLaws
import Derived.LaidHandle
import Derived.Stop.LaidErr
import Derived.Below
namespace Go.Proofs.YtbpndmcejbiedaaDoor
open Go.ChangeShapes Go.WideShapes Go.RowKit
theorem glN : Tryd.prog.globalNamed "loop.example/rationalstreams/impl.errNoInverse" = some 0 := by kernel_rfl
theorem glT : (Tryd.prog.globals[0]?).map (·.type) = some 69 := by kernel_rfl
theorem glName : Tryd.prog.typeName? 3 101 = some "*errors.errorString" := by kernel_rfl
theorem glCells : Tryd.prog.cellsOf 128 = 1 := by kernel_rfl
theorem glCellsS : Tryd.prog.cellsOf 9 = 1 := by kernel_rfl
theorem glStar : "*" ++ "errors.errorString" = "*errors.errorString" := by decide
theorem glRow (u : TypeId) (h : Tryd.prog.typeName? 3 u = some "*errors.errorString") : u = 101 :=
  typeName_ptr_named (nm := "errors.errorString") (by rw [glStar]; kernel_rfl) (by kernel_rfl) (by decide) u (by rw [glStar]; exact h)
theorem ge_of_laid {W : World} (h : laidMetH Tryd.prog [("loop.example/rationalstreams/impl.errNoInverse", Rows.laid_loop_example_rationalstreams_impl_errNoInverse)] W) :
    ∃ a : Addr, W.var? Tryd.prog "loop.example/rationalstreams/impl.errNoInverse" = some #[.iface 101 (.pointer (some a))] ∧ GE W a := by
  have h' : laidMet Tryd.prog [("loop.example/rationalstreams/impl.errNoInverse", Rows.laid_loop_example_rationalstreams_impl_errNoInverse)] W := h
  obtain ⟨a, s, hv, _, _, _⟩ := laid_sentinel h' glN glT Tryd.underlying69 glRow Tryd.underlying101 Tryd.underlying128 rfl rfl Tryd.underlying9 glCells glCellsS
  exact ⟨a, hv, by simpa [GE] using World.var?_cell glN hv 0⟩
abbrev glS : ByteArray := { data := #[116, 104, 101, 32, 108, 111, 119, 101, 114, 32, 112, 111, 108, 121, 110, 111, 109, 105, 97, 108, 32, 104, 97, 115, 32, 110, 111, 32, 105, 110, 118, 101, 114, 115, 101] }
noncomputable def glLow : Nat := (World.holding Tryd.prog default ⟨#[], #[], []⟩).heap.size
/-- a world that meets the condition -/
noncomputable def laidWorld (os : Os) : World :=
  let w0 := World.holding Tryd.prog os ⟨#[.cells #[.string glS] 128], #[], []⟩
  { w0 with heap := w0.heap.modify 0 fun
      | .cells _ t frozen => .cells #[.iface 101 (.pointer (some ⟨glLow, 0, none⟩))] t frozen
      | o => o }
theorem laidWorld_met (os : Os) (args : Array Value) : laidMet Tryd.prog [("loop.example/rationalstreams/impl.errNoInverse", Rows.laid_loop_example_rationalstreams_impl_errNoInverse)] ((laidWorld os).forCall (fun _ _ => 0) ⟨#[], args, []⟩).memory :=
  laidMet_of_run (ps := [.cell 0 0, .cell glLow 0]) 8 (by kernel_rfl) (by kernel_rfl) (by kernel_rfl)
theorem vars_gl {H : Type} (enc : TypeId × Value → H) {W : World} {x : Value} (h : W.var? Tryd.prog "loop.example/rationalstreams/impl.errNoInverse" = some #[x]) (ix : IsIface x) (sp : Nat → Bool) :
    DataW.TrodVars enc Tryd.prog W sp ["loop.example/rationalstreams/impl.errNoInverse"] [tok enc x] [.cell 0 0] := vars_read1 enc glN glT Tryd.underlying69 h ix sp
theorem var_below {W W' : World} {x : Array Value} (h : W.var? Tryd.prog "loop.example/rationalstreams/impl.errNoInverse" = some x) (hl : 0 < W.heap.size) (k : Below W.heap.size W W') : W'.var? Tryd.prog "loop.example/rationalstreams/impl.errNoInverse" = some x := by
  unfold World.var? at h ⊢
  rw [glN] at h ⊢
  simp only [Option.bind_some] at h ⊢
  rw [k.block 0 hl]
  exact h
end Go.Proofs.YtbpndmcejbiedaaDoor
