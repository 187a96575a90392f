/-
  The contracts of the functions that draw a prime and matrices.
-/
import Derived.Test.YtpelokdgjdljfabDrawM
namespace Go.Proofs.Ytpelokdgjdljfab
open Go.RowKit
theorem mat_int (rb n c cb co N : Nat) (A : Option Addr) (p m rows cols : Int) (w : World) (h : Rd w rb A n c cb co N) (hN : N ≤ 900000) (hp : 0 ≤ p) (hp' : p ≤ 17) (hr : 1 ≤ rows) (hr' : rows ≤ 20) (hc : 1 ≤ cols) (hc' : cols ≤ 20) (hm : 1 ≤ m) (hm' : m ≤ 1000000) :
    Calls Try.prog 50 #[.pointer (some ⟨rb, 0, none⟩), .int .i64 p, .int .i64 rows, .int .i64 cols, .int .i64 m] w (MatPost rb n c cb co (N + 1010) A w) := by
  obtain ⟨R, rfl⟩ := Int.eq_ofNat_of_zero_le (show 0 ≤ rows by omega)
  obtain ⟨C, rfl⟩ := Int.eq_ofNat_of_zero_le (show 0 ≤ cols by omega)
  exact mat_any rb n c cb co N A p m R C w h hN hp hp' (by omega) (by omega) (by omega) (by omega) hm hm'
/-- a drawn matrix, where it lies -/
structure DM (w' : World) (B : Nat) (Ao : Option Addr) (co : Nat) (M : List (List Int)) : Prop where
  few : M.length ≤ 20
  rows : ∀ row ∈ M, RowS row
  own : ∃ vs, OMW w' B Ao M.length co M vs
def PM (w : World) (e : Ending) (w' : World) : Prop :=
  ∃ (p : Int) (Ao : Option Addr) (co : Nat) (M : List (List Int)), e = .returned (.tuple #[.int .i64 p, .slice Ao M.length co]) ∧ (0 ≤ p ∧ p ≤ 17) ∧ DM w' w.heap.size Ao co M ∧ Below w.heap.size w w'
def PMM (w : World) (e : Ending) (w' : World) : Prop :=
  ∃ (p : Int) (Ao : Option Addr) (co : Nat) (M : List (List Int)) (Ao2 : Option Addr) (co2 : Nat) (M2 : List (List Int)), e = .returned (.tuple #[.int .i64 p, .slice Ao M.length co, .slice Ao2 M2.length co2]) ∧ (0 ≤ p ∧ p ≤ 17) ∧ DM w' w.heap.size Ao co M ∧ DM w' w.heap.size Ao2 co2 M2 ∧ Below w.heap.size w w'
theorem Keep.drwBelow {rb B0 B : Nat} {w w' : World} (h : Keep (Drw rb B) w w') (hB : B0 ≤ w.heap.size) (hr : B0 ≤ rb) (hb : B0 ≤ B) : Below B0 w w' := h.below hB (fun k hk => by rcases hk with hk | hk <;> omega)
theorem DM.keep {w w' : World} {B : Nat} {A : Option Addr} {c : Nat} {M : List (List Int)} {S : Nat → Prop} (h : DM w B A c M) (k : Keep S w w') (hs : ∀ g, B ≤ g → g < w.heap.size → ¬ S g) : DM w' B A c M := ⟨h.few, h.rows, let ⟨vs, g⟩ := h.own; ⟨vs, g.keep k hs⟩⟩
theorem DM.mono {w : World} {B B' : Nat} {A : Option Addr} {c : Nat} {M : List (List Int)} (h : DM w B A c M) (hB : B' ≤ B) : DM w B' A c M := ⟨h.few, h.rows, let ⟨vs, g⟩ := h.own; ⟨vs, g.mono hB⟩⟩
theorem DM.below {w w' : World} {B : Nat} {A : Option Addr} {c : Nat} {M : List (List Int)} (h : DM w B A c M) (k : Below w.heap.size w w') : DM w' B A c M := h.keep (keep_of_below k) (fun _ _ _ h => h)
theorem DM.ra {w : World} {B : Nat} {A : Option Addr} {c : Nat} {M : List (List Int)} (h : DM w B A c M) : ∃ b, RA w A M.length b 0 M := let ⟨_, g⟩ := h.own; g.ra
theorem DM.cap {w : World} {B : Nat} {A : Option Addr} {c : Nat} {M : List (List Int)} (h : DM w B A c M) : M.length ≤ c := by
  obtain ⟨vs, h⟩ := h.own
  rcases h.out.2 with ⟨h1, h2⟩ | ⟨g', cap, cur, hv, _, _, hnc, _⟩
  · omega
  · simp only [Value.slice.injEq, true_and] at hv
    omega
theorem any_any (rb n c cb co N : Nat) (A : Option Addr) (w : World) (h : Rd w rb A n c cb co N) (hN : N ≤ 800000) :
    Calls Try.prog 60 #[.pointer (some ⟨rb, 0, none⟩)] w fun e w' => ∃ (p : Int) (Ao : Option Addr) (co' : Nat) (M : List (List Int)), e = .returned (.tuple #[.int .i64 p, .slice Ao M.length co']) ∧ (0 ≤ p ∧ p ≤ 17) ∧ DM w' w.heap.size Ao co' M ∧ Rd w' rb A n c cb co (N + 1020) ∧ Keep (Drw rb w.heap.size) w w' := by
  go_enter Try.func60, Try.ntmps60
  go_wp2_with (fail)
  refine (prime_any rb n c cb co _ A _ _ h (by omega) (by omega) (by omega)).mono ?_
  rintro e w2 ⟨p, rfl, ⟨hp0, hp1⟩, hR2, hK2⟩
  go_wp2_with (fail)
  refine (pick_any rb n c cb co _ A _ _ hR2 (by omega)).mono ?_
  rintro e w3 ⟨j1, rfl, hj1, hR3, hK3⟩
  have hj1 := hj1 (by omega)
  go_wp2_with (fail)
  refine (pick_any rb n c cb co _ A _ _ hR3 (by omega)).mono ?_
  rintro e w4 ⟨j2, rfl, hj2, hR4, hK4⟩
  have hj2 := hj2 (by omega)
  have hk := (hK2.trans hK3).trans hK4
  have hs := hk.size
  clear h hR2 hR3 hK2 hK3 hK4
  go_wp2_with (fail)
  refine (mat_int rb n c cb co _ A _ _ _ _ _ hR4 (by omega) (by omega) (by omega) (by omega) (by omega) (by omega) (by omega) (by omega) (by omega)).mono ?_
  rintro e w5 ⟨Ao, co', M, vs, rfl, hM, hrow, hO, hR5, hK5⟩
  go_wp2_with (fail)
  go_ret2
  exact ⟨_, _, _, _, rfl, ⟨hp0, hp1⟩, (DM.mk hM hrow ⟨vs, hO⟩).mono hs, hR5.mono (by omega), hk.drwR.trans (hK5.mono (fun _ _ h => h.mono hs))⟩
theorem drawAny {f : FuncId} (hf : ∀ (a : Option Addr) (len cap : Nat) (w : World), (Calls Try.prog 47 #[.slice a len cap] w fun e w1 => ∃ q, e = .returned (.pointer q) ∧ Calls Try.prog 60 #[.pointer q] w1 (PM w)) → Calls Try.prog f #[.slice a len cap] w (PM w)) (a : Option Addr) (len cap : Nat) (zs : List Int) (w : World) (h : IsRow .u8 w a len cap zs) :
    Calls Try.prog f #[.slice a len cap] w (PM w) := by
  refine hf a len cap w ((open_any a len cap zs w h).mono ?_)
  rintro e w1 ⟨rb, A, n, c, cb, co, rfl, hR, hB, hrb, hcb⟩
  refine ⟨_, rfl, (any_any rb n c cb co 0 A _ hR (by omega)).mono ?_⟩
  rintro e w2 ⟨p, Ao, co', M, rfl, hp, hD, hR2, hK⟩
  have hs := hB.size
  exact ⟨p, Ao, co', M, rfl, hp, hD.mono hs, hB.trans (hK.drwBelow hs hrb hs)⟩
theorem drawMatTurn (a : Option Addr) (len cap : Nat) (zs : List Int) (w : World) (h : IsRow .u8 w a len cap zs) :
    Calls Try.prog 28 #[.slice a len cap] w (PM w) := by
  refine drawAny (f := 28) (fun a len cap w hc => ?_) a len cap zs w h
  go_enter Try.func28, Try.ntmps28
  go_wp2_with (fail)
  refine hc.mono ?_
  rintro e w1 ⟨q, rfl, h2⟩
  go_wp2_with (fail)
  refine h2.mono ?_
  rintro e w2 ⟨p, Ao, co', M, rfl, hp, hD, hB⟩
  go_wp2_with (fail)
  go_ret2
  exact ⟨p, Ao, co', M, rfl, hp, hD, hB⟩
theorem drawMatForm (a : Option Addr) (len cap : Nat) (zs : List Int) (w : World) (h : IsRow .u8 w a len cap zs) :
    Calls Try.prog 31 #[.slice a len cap] w (PM w) := by
  refine drawAny (f := 31) (fun a len cap w hc => ?_) a len cap zs w h
  go_enter Try.func31, Try.ntmps31
  go_wp2_with (fail)
  refine hc.mono ?_
  rintro e w1 ⟨q, rfl, h2⟩
  go_wp2_with (fail)
  refine h2.mono ?_
  rintro e w2 ⟨p, Ao, co', M, rfl, hp, hD, hB⟩
  go_wp2_with (fail)
  go_ret2
  exact ⟨p, Ao, co', M, rfl, hp, hD, hB⟩
theorem drawMatRank (a : Option Addr) (len cap : Nat) (zs : List Int) (w : World) (h : IsRow .u8 w a len cap zs) :
    Calls Try.prog 35 #[.slice a len cap] w (PM w) := by
  refine drawAny (f := 35) (fun a len cap w hc => ?_) a len cap zs w h
  go_enter Try.func35, Try.ntmps35
  go_wp2_with (fail)
  refine hc.mono ?_
  rintro e w1 ⟨q, rfl, h2⟩
  go_wp2_with (fail)
  refine h2.mono ?_
  rintro e w2 ⟨p, Ao, co', M, rfl, hp, hD, hB⟩
  go_wp2_with (fail)
  go_ret2
  exact ⟨p, Ao, co', M, rfl, hp, hD, hB⟩
theorem drawMatKernel (a : Option Addr) (len cap : Nat) (zs : List Int) (w : World) (h : IsRow .u8 w a len cap zs) :
    Calls Try.prog 37 #[.slice a len cap] w (PM w) := by
  refine drawAny (f := 37) (fun a len cap w hc => ?_) a len cap zs w h
  go_enter Try.func37, Try.ntmps37
  go_wp2_with (fail)
  refine hc.mono ?_
  rintro e w1 ⟨q, rfl, h2⟩
  go_wp2_with (fail)
  refine h2.mono ?_
  rintro e w2 ⟨p, Ao, co', M, rfl, hp, hD, hB⟩
  go_wp2_with (fail)
  go_ret2
  exact ⟨p, Ao, co', M, rfl, hp, hD, hB⟩
end Go.Proofs.Ytpelokdgjdljfab
