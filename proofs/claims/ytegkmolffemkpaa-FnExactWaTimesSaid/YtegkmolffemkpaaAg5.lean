/-
  A struct of five one-cell fields, read: the value written out, and each field's cell with its reading.
-/
import Derived.Test.YtegkmolffemkpaaRows
import Derived.Lib.SmallJoins
import Derived.OpenShut
namespace Go.Proofs.Ytegkmolffemkpaa
open Go.Joins Go.Deep Go.ChangeShapes Go.WideShapes Go.ChangeAt Go.RowKit
theorem five {α : Type} {cs : Array α} (h : cs.size = 5) : ∃ a b c d e, cs = #[a, b, c, d, e] := by
  rcases cs with ⟨_ | ⟨a, _ | ⟨b, _ | ⟨c, _ | ⟨d, _ | ⟨e, _ | ⟨f, l⟩⟩⟩⟩⟩⟩⟩
  all_goals simp at h
  exact ⟨a, b, c, d, e, rfl⟩
theorem open_five {H : Type} {enc : TypeId × Value → H} {P : Program} {w : World} {base : Nat} {spare : Nat → Bool} {held : Bool} {r : Reach} {b0 : Nat} {t : TypeId} {f0 f1 f2 f3 f4 : Field} {v : Value} {d : DataW H} {p : List MemPlace}
    (hs : P.underlying t = some (.struct #[f0, f1, f2, f3, f4])) (hone : oneCellFields P #[f0, f1, f2, f3, f4] = true) (hC : P.cellsOf t = 5) (hv : Value.okWide P w r b0 t v) (h : DataW.Trod enc P w base spare held t v d p) :
    ∃ (a b c e g : Value) (ya yb yc ye yg : DataW H × List MemPlace) (n : Nat), v = .agg #[a, b, c, e, g] ∧
      DataW.trod enc P w base spare held n f0.type [a] = some ya ∧ DataW.trod enc P w base spare held n f1.type [b] = some yb ∧ DataW.trod enc P w base spare held n f2.type [c] = some yc ∧
      DataW.trod enc P w base spare held n f3.type [e] = some ye ∧ DataW.trod enc P w base spare held n f4.type [g] = some yg := by
  obtain ⟨cs, rfl, hsz⟩ := okWide_struct hs hv
  obtain ⟨a, b, c, e, g, rfl⟩ := five (hsz.trans hC)
  obtain ⟨fuel, hf⟩ := h
  obtain ⟨xs, n, _, _, _, hlen, hF⟩ := DataW.trod_struct hs hf
  have H := fun (i : Nat) (f : Field) (hi : #[f0, f1, f2, f3, f4][i]? = some f) => hF i f hi
  have e0 := hone_of hone 0 f0 rfl
  have e1 := hone_of hone 1 f1 rfl
  have e2 := hone_of hone 2 f2 rfl
  have e3 := hone_of hone 3 f3 rfl
  have e4 := hone_of hone 4 f4 rfl
  rcases xs with _ | ⟨y0, _ | ⟨y1, _ | ⟨y2, _ | ⟨y3, _ | ⟨y4, _ | ⟨y5, l⟩⟩⟩⟩⟩⟩
  all_goals simp at hlen
  exact ⟨a, b, c, e, g, y0, y1, y2, y3, y4, n, rfl, by simpa [Value.cells, e0.1, e0.2] using H 0 f0 rfl, by simpa [Value.cells, e1.1, e1.2] using H 1 f1 rfl, by simpa [Value.cells, e2.1, e2.2] using H 2 f2 rfl, by simpa [Value.cells, e3.1, e3.2] using H 3 f3 rfl, by simpa [Value.cells, e4.1, e4.2] using H 4 f4 rfl⟩
end Go.Proofs.Ytegkmolffemkpaa
