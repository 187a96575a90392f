/-
  The rank of the table of a drawn recurrence is the order of its least one.
-/
import Derived.Test.YtecmclaockmgeaaDoorRows
import Derived.WalkKit
import Derived.ProofKit
import Derived.OpenShut
import Derived.ShutString
import Derived.ChangeOld
import Derived.Below
import Derived.Test.YtecmclaockmgeaaDoorCards
import Derived.Test.YtecmclaockmgeaaDoorTie
import Derived.Test.YtecmclaockmgeaaDoorErr
import Derived.ChangeSame
import Derived.ChangeVars
import Derived.JoinedOf
import Derived.RowKit
import Derived.RowKitTokens
import Derived.LaidLaws
import Derived.LaidHandle
import Derived.Stop.LaidErr
import Derived.Test.YtecmclaockmgeaaDoorWStreamRank
namespace Go.Proofs.YtecmclaockmgeaaDoor
open Go.ChangeShapes Go.WideShapes Go.RowKit
theorem glN : Tryd.prog.globalNamed "loop.example/rationalstreams/impl.errNoInverse" = some 0 := by kernel_rfl
theorem glT : (Tryd.prog.globals[0]?).map (·.type) = some 82 := by kernel_rfl
theorem glName : Tryd.prog.typeName? 3 119 = some "*errors.errorString" := by kernel_rfl
theorem glCells : Tryd.prog.cellsOf 145 = 1 := by kernel_rfl
theorem glCellsS : Tryd.prog.cellsOf 9 = 1 := by kernel_rfl
theorem glStar : "*" ++ "errors.errorString" = "*errors.errorString" := by decide
theorem glRow (u : TypeId) (h : Tryd.prog.typeName? 3 u = some "*errors.errorString") : u = 119 :=
  typeName_ptr_named (nm := "errors.errorString") (by rw [glStar]; kernel_rfl) (by kernel_rfl) (by decide) u (by rw [glStar]; exact h)
theorem ge_of_laid {W : World} (h : laidMetH Tryd.prog [("loop.example/rationalstreams/impl.errNoInverse", Rows.laid_loop_example_rationalstreams_impl_errNoInverse)] W) :
    ∃ a : Addr, W.var? Tryd.prog "loop.example/rationalstreams/impl.errNoInverse" = some #[.iface 119 (.pointer (some a))] ∧ GE W a := by
  have h' : laidMet Tryd.prog [("loop.example/rationalstreams/impl.errNoInverse", Rows.laid_loop_example_rationalstreams_impl_errNoInverse)] W := h
  obtain ⟨a, s, hv, _, _, _⟩ := laid_sentinel h' glN glT Tryd.underlying82 glRow Tryd.underlying119 Tryd.underlying145 rfl rfl Tryd.underlying9 glCells glCellsS
  exact ⟨a, hv, by simpa [GE] using World.var?_cell glN hv 0⟩
abbrev glS : ByteArray := { data := #[116, 104, 101, 32, 108, 111, 119, 101, 114, 32, 112, 111, 108, 121, 110, 111, 109, 105, 97, 108, 32, 104, 97, 115, 32, 110, 111, 32, 105, 110, 118, 101, 114, 115, 101] }
noncomputable def glLow : Nat := (World.holding Tryd.prog default ⟨#[], #[], []⟩).heap.size
/-- a world that meets the condition -/
noncomputable def laidWorld (os : Os) : World :=
  let w0 := World.holding Tryd.prog os ⟨#[.cells #[.string glS] 145], #[], []⟩
  { w0 with heap := w0.heap.modify 0 fun
      | .cells _ t frozen => .cells #[.iface 119 (.pointer (some ⟨glLow, 0, none⟩))] t frozen
      | o => o }
theorem laidWorld_met (os : Os) (args : Array Value) : laidMet Tryd.prog [("loop.example/rationalstreams/impl.errNoInverse", Rows.laid_loop_example_rationalstreams_impl_errNoInverse)] ((laidWorld os).forCall (fun _ _ => 0) ⟨#[], args, []⟩).memory :=
  laidMet_of_run (ps := [.cell 0 0, .cell glLow 0]) 8 (by kernel_rfl) (by kernel_rfl) (by kernel_rfl)
theorem vars_gl {H : Type} (enc : TypeId × Value → H) {W : World} {x : Value} (h : W.var? Tryd.prog "loop.example/rationalstreams/impl.errNoInverse" = some #[x]) (ix : IsIface x) (sp : Nat → Bool) :
    DataW.TrodVars enc Tryd.prog W sp ["loop.example/rationalstreams/impl.errNoInverse"] [tok enc x] [.cell 0 0] := vars_read1 enc glN glT Tryd.underlying82 h ix sp
theorem var_below {W W' : World} {x : Array Value} (h : W.var? Tryd.prog "loop.example/rationalstreams/impl.errNoInverse" = some x) (hl : 0 < W.heap.size) (k : Below W.heap.size W W') : W'.var? Tryd.prog "loop.example/rationalstreams/impl.errNoInverse" = some x := by
  unfold World.var? at h ⊢
  rw [glN] at h ⊢
  simp only [Option.bind_some] at h ⊢
  rw [k.block 0 hl]
  exact h
end Go.Proofs.YtecmclaockmgeaaDoor
namespace Go.Proofs.YtecmclaockmgeaaDoor.fnStreamRank
open Go.ChangeShapes Go.WideShapes Go.ChangeAt Go.RowKit
open Go.ChangeMaps (open_string shut_string)
set_option linter.unusedVariables false

theorem own : ownKnob Tryd.prog.godebug = none := by kernel_rfl
theorem laidOut : laidOutB Tryd.prog = true := by kernel_rfl

set_option maxRecDepth 100000 in
theorem lifted (os : Os) (started : os.Started) (H : Type) (enc : TypeId × Value → H) :
    ReturnsInHanded {} Tryd.checked os 3 .any (fun w args => (Rows.fnStreamRankSpec.pre enc Tryd.prog Tryd.f3 [] false w args ∧ laidMetH Tryd.prog Rows.fnStreamRankRow.laid w) ∧ sizedMet enc Tryd.prog Tryd.f3 (OpenSpec.ofChange Rows.fnStreamRankSpec) false w args) (Rows.fnStreamRankSpec.post enc Tryd.prog Tryd.f3 false true false false) := by
  refine returnsInHanded_of_change_and (C := Tryd.checked) (X := (fun w _ => laidMetH Tryd.prog Rows.fnStreamRankRow.laid w)) (fun _ _ _ hh h => h.of_heap hh) own started (by kernel_rfl) Tryd.func3
    (ChangeSpec.witness_at (enc := enc) (C := Tryd.checked) (os := os) (X := (fun w _ => laidMetH Tryd.prog Rows.fnStreamRankRow.laid w)) false (laidWorld os) #[.slice none 0 0] 8 rfl (by kernel_rfl) (by kernel_rfl) (by kernel_rfl) (by kernel_rfl) (by kernel_rfl) (laidWorld_met os _)) ?_
  intro W base args ds gs before hval0 hW _ _ hL _
  have hval : ∀ (j : Nat) t v, Tryd.f3.params[j]? = some t → args[j]? = some v → Value.okWide Tryd.prog W .any base t v := hval0
  have hW' := hW
  obtain ⟨p, q, hA0, hV, rfl, hfz, hnd⟩ := hW
  have hA : DataW.TrodAll enc Tryd.prog W 0 (fun _ => true) true Tryd.f3.params.toList args.toList ds p := hA0
  rw [Tryd.params3] at hA hval
  obtain ⟨v0, vs0, d0, ds0, p0, q0, hargs, rfl, rfl, h0, r0⟩ := trodAll_cons hA
  obtain ⟨rfl, rfl, rfl⟩ := trodAll_nil r0
  obtain rfl : args = #[v0] := by cases args; simp_all
  obtain ⟨ge, hvr, hge⟩ := ge_of_laid hL
  obtain ⟨rfl, rfl⟩ := hV.unique (vars_gl enc hvr trivial _)
  obtain ⟨a0, len0, cap0, rfl⟩ := okWide_slice Tryd.underlying22 (hval 0 22 v0 rfl rfl)
  have k0 := h0
  have lt0 : ∀ x ∈ p0, x.block < W.heap.size := by obtain ⟨m, hm⟩ := k0; exact DataW.trod_lt m _ _ _ hm
  obtain ⟨z0, w0⟩ : ∃ zs, IsRow .u8 W a0 len0 cap0 zs := by
    obtain ⟨fuel, hf⟩ := h0
    rcases open_ints Tryd.underlying22 Tryd.underlying5 (by kernel_rfl) hf with ⟨hcs, _⟩ | ⟨x, l, c, zs, hcs, _, hl, hm, hz, _, hcell, hwz⟩
    · simp [Value.cells] at hcs
      obtain ⟨rfl, rfl, rfl⟩ := hcs
      exact ⟨[], .inl ⟨rfl, rfl, rfl, rfl⟩⟩
    · simp [Value.cells] at hcs
      obtain ⟨rfl, rfl, rfl⟩ := hcs
      exact ⟨zs, .inr ⟨_, rfl, hl, hm, by simpa using hz, hcell, hwz⟩⟩
  have hlt := hge.lt
  clear hA0 hval0
  simp only [List.append_nil] at hW'
  refine (walkFnStreamRank a0 len0 cap0 z0 W w0 ge hge).mono fun e W' ⟨he, bel⟩ => ?_
  subst he
  exact ⟨_, rfl, _, _, _, [], _, [.cell 0 0], hW', trodAll_mk1 (shut_bool Tryd.underlying4 _), (trodAll_cons_mk (Below.trod laidOut (by kernel_rfl) (of_decide_eq_true (by kernel_rfl)) k0 bel lt0) trodAll_mk0), vars_gl enc (var_below hvr hlt bel) trivial _, bel.frame _, fun h => by cases h⟩

theorem over : Rows.fnStreamRankRow.holds Tryd.pinned (OpenSpec.ofChange Rows.fnStreamRankSpec) :=
  OpenClaim.holds_of_wide 3 Tryd.f3 rfl rfl rfl rfl rfl rfl rfl ⟨rfl, rfl, rfl, rfl, rfl⟩ rfl rfl rfl rfl rfl (by kernel_rfl) Tryd.func3 (by kernel_rfl)
    (of_decide_eq_true (by kernel_rfl)) (by unfold Func.isWrapper; first | (rw [if_pos (by decide +kernel)]; kernel_rfl) | (rw [if_neg (by decide +kernel)]; exact ⟨rfl, rfl⟩))
    (fun os started H enc _ => lifted os started H enc)

theorem plain (f : FuncId) (fn : Func) (hf : Tryd.pinned.checked.prog.funcNamed "loop.example/rationalstreams/laws.FnStreamRank" = some f) (hfn : Tryd.pinned.checked.prog.funcs[f]? = some fn) :
    true = Tryd.pinned.checked.prog.looks [] ∧ ∀ (j : Nat) t, fn.params[j]? = some t → Tryd.pinned.checked.prog.wantsStandIn t = false := by
  obtain rfl : f = 3 := Option.some.inj ((show Tryd.prog.funcNamed "loop.example/rationalstreams/laws.FnStreamRank" = some 3 by kernel_rfl).symm.trans hf) |>.symm
  obtain rfl : fn = Tryd.f3 := (Option.some.inj (Tryd.func3.symm.trans hfn)).symm
  refine ⟨by kernel_rfl, fun j t ht => ?_⟩
  rw [Tryd.params3] at ht
  have hm := Array.mem_of_getElem? ht
  simp only [List.mem_toArray, List.mem_cons, List.not_mem_nil, or_false] at hm
  rcases hm with rfl
  · exact (show Tryd.prog.wantsStandIn 22 = false by kernel_rfl)

theorem proved : Rows.FnStreamRankCardSaid :=
  Claim7.holds_tied_plain_at .later [] _ _ _ _ over (fun _ h => by cases h) (by kernel_rfl) (fun _ h => by cases h) fnStreamRank_row_tie rfl ⟨rfl, rfl⟩ (by kernel_rfl) rfl plain (by kernel_rfl)
end Go.Proofs.YtecmclaockmgeaaDoor.fnStreamRank
