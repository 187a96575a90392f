/-
  The contracts of the functions that draw a prime and matrices.
-/
import Derived.Test.YtpelokdgjdljfacDrawM
namespace Go.Proofs.Ytpelokdgjdljfac
open Go.RowKit
theorem mat_int (rb n c cb co N : Nat) (A : Option Addr) (p m rows cols : Int) (w : World) (h : Rd w rb A n c cb co N) (hN : N ≤ 900000) (hp : 0 ≤ p) (hp' : p ≤ 17) (hr : 1 ≤ rows) (hr' : rows ≤ 20) (hc : 1 ≤ cols) (hc' : cols ≤ 20) (hm : 1 ≤ m) (hm' : m ≤ 1000000) :
    Calls Try.prog 20 #[.pointer (some ⟨rb, 0, none⟩), .int .i64 p, .int .i64 rows, .int .i64 cols, .int .i64 m] w (MatPost rb n c cb co (N + 1010) A w) := by
  obtain ⟨R, rfl⟩ := Int.eq_ofNat_of_zero_le (show 0 ≤ rows by omega)
  obtain ⟨C, rfl⟩ := Int.eq_ofNat_of_zero_le (show 0 ≤ cols by omega)
  exact mat_any rb n c cb co N A p m R C w h hN hp hp' (by omega) (by omega) (by omega) (by omega) hm hm'
/-- a drawn matrix, where it lies -/
structure DM (w' : World) (B : Nat) (Ao : Option Addr) (co : Nat) (M : List (List Int)) : Prop where
  few : M.length ≤ 20
  rows : ∀ row ∈ M, RowS row
  own : ∃ vs, OMW w' B Ao M.length co M vs
def PM (w : World) (e : Ending) (w' : World) : Prop :=
  ∃ (p : Int) (Ao : Option Addr) (co : Nat) (M : List (List Int)), e = .returned (.tuple #[.int .i64 p, .slice Ao M.length co]) ∧ (0 ≤ p ∧ p ≤ 17) ∧ DM w' w.heap.size Ao co M ∧ Below w.heap.size w w'
def PMM (w : World) (e : Ending) (w' : World) : Prop :=
  ∃ (p : Int) (Ao : Option Addr) (co : Nat) (M : List (List Int)) (Ao2 : Option Addr) (co2 : Nat) (M2 : List (List Int)), e = .returned (.tuple #[.int .i64 p, .slice Ao M.length co, .slice Ao2 M2.length co2]) ∧ (0 ≤ p ∧ p ≤ 17) ∧ DM w' w.heap.size Ao co M ∧ DM w' w.heap.size Ao2 co2 M2 ∧ Below w.heap.size w w'
theorem Keep.drwBelow {rb B0 B : Nat} {w w' : World} (h : Keep (Drw rb B) w w') (hB : B0 ≤ w.heap.size) (hr : B0 ≤ rb) (hb : B0 ≤ B) : Below B0 w w' := h.below hB (fun k hk => by rcases hk with hk | hk <;> omega)
theorem DM.keep {w w' : World} {B : Nat} {A : Option Addr} {c : Nat} {M : List (List Int)} {S : Nat → Prop} (h : DM w B A c M) (k : Keep S w w') (hs : ∀ g, B ≤ g → g < w.heap.size → ¬ S g) : DM w' B A c M := ⟨h.few, h.rows, let ⟨vs, g⟩ := h.own; ⟨vs, g.keep k hs⟩⟩
theorem DM.mono {w : World} {B B' : Nat} {A : Option Addr} {c : Nat} {M : List (List Int)} (h : DM w B A c M) (hB : B' ≤ B) : DM w B' A c M := ⟨h.few, h.rows, let ⟨vs, g⟩ := h.own; ⟨vs, g.mono hB⟩⟩
theorem DM.below {w w' : World} {B : Nat} {A : Option Addr} {c : Nat} {M : List (List Int)} (h : DM w B A c M) (k : Below w.heap.size w w') : DM w' B A c M := h.keep (keep_of_below k) (fun _ _ _ h => h)
theorem DM.ra {w : World} {B : Nat} {A : Option Addr} {c : Nat} {M : List (List Int)} (h : DM w B A c M) : ∃ b, RA w A M.length b 0 M := let ⟨_, g⟩ := h.own; g.ra
theorem DM.cap {w : World} {B : Nat} {A : Option Addr} {c : Nat} {M : List (List Int)} (h : DM w B A c M) : M.length ≤ c := by
  obtain ⟨vs, h⟩ := h.own
  rcases h.out.2 with ⟨h1, h2⟩ | ⟨g', cap, cur, hv, _, _, hnc, _⟩
  · omega
  · simp only [Value.slice.injEq, true_and] at hv
    omega
end Go.Proofs.Ytpelokdgjdljfac
