/-
  The contract of slices.Clone over numbers with their prime.
-/
import Derived.Test.YtmmadmfpbancmabTrm
import Derived.Test.YtmmadmfpbancmabApp
namespace Go.Proofs.Ytmmadmfpbancmab
open Go.RowKit
theorem nilEq1 (A : Addr) (n c : Nat) : ∀ w, (binOp BinOp.eql 57 (Value.slice (some A) n c) (Value.slice none 0 0)).run Try.prog w = .ok (.bool false) w := by
  intro w
  first | rfl | kernel_rfl
theorem nilEq0 : ∀ w, (binOp BinOp.eql 57 (Value.slice none 0 0) (Value.slice none 0 0)).run Try.prog w = .ok (.bool true) w := by
  intro w
  first | rfl | kernel_rfl
theorem two_one (zs : List (Int × Int)) : ∀ u ∈ two zs, u.oneCell' = true := by
  intro u hu
  simp only [two, List.mem_flatMap, List.mem_cons, List.not_mem_nil, or_false] at hu
  obtain ⟨z, _, rfl | rfl⟩ := hu <;> rfl
theorem IT.src {w : World} {n c b : Nat} {A : Option Addr} {p : Int} {xs : List Int} (h : IT w A n c b p xs) : ∀ j u, (two (wp p xs))[j]? = some u → w.cell? ((⟨b, 0, none⟩ : Addr).add j) = some u := by
  intro j u hu
  have hj : j < n * 2 := by
    have := (List.getElem?_eq_some_iff.1 hu).1
    rw [two_len, wp_len, h.len] at this
    exact this
  obtain ⟨x, hx, h1, h2⟩ := h.cell (j / 2) (by omega)
  obtain ⟨g1, g2⟩ := two_get _ _ _ (wp_get (p := p) hx)
  rw [addrAdd _ _ rfl]
  have hc : j = j / 2 * 2 ∨ j = j / 2 * 2 + 1 := by omega
  rcases hc with e | e
  · rw [e] at hu
    rw [g1] at hu
    obtain rfl := Option.some.inj hu
    show w.cell? ⟨b, 0 + j, none⟩ = _
    rw [Nat.zero_add, e]; exact h1
  · rw [e] at hu
    rw [g2] at hu
    obtain rfl := Option.some.inj hu
    show w.cell? ⟨b, 0 + j, none⟩ = _
    rw [Nat.zero_add, e]; exact h2
theorem clone_any (p : Int) (A : Option Addr) (n c b : Nat) (xs : List Int) (w : World) (h : IT w A n c b p xs) (hn : n ≤ 1000000) :
    Calls Try.prog 63 #[.slice A n c] w (MadeT p xs w) := by
  have HL := Lib.hid h.len
  have H := Lib.hid h
  have hcap := h.capn
  have hbig := h.big
  rcases h.adr with ⟨rfl, rfl, rfl⟩ | rfl
  · clear h
    have HX := Lib.hid (List.eq_nil_of_length_eq_zero HL.out)
    have hq := nilEq0
    go_enter Try.func63, Try.ntmps63
    go_wp2_with (fail)
    go_ret
    rw [HX.out]
    exact ⟨none, 0, rfl, World.ownsRow_nil _ _ _ _, Below.refl _ _⟩
  · clear h
    have hq := nilEq1 ⟨b, 0, none⟩ n c
    obtain ⟨i0, hi, hz0, hz1, hz2⟩ := info_parts infoRes
    go_enter Try.func63, Try.ntmps63
    go_wp2_with (at_builtin; refine wpList_append_own _ rfl (.tmp 5) (.tmp 6) 57 rfl w.heap.size 61 i0 (.agg #[.int .i64 0, .int .i64 0]) 2 16 Try.underlying57 hi hz0 hz1 hz2 rfl (by decide) _ 0 [] rfl (World.ownsRow_made w #[] 0 (Nat.le_refl _) (Nat.zero_le _) rfl) ⟨b, 0, none⟩ n c (two (wp p xs)) rfl (by rw [two_len, wp_len, HL.out]) (H.out.below ((Below.refl _ _).alloc (Nat.le_refl _) _)).src (two_one _) ?_ ?_ ?_ ?_)
    · unfold maxLen; omega
    · omega
    · simp
    · intro v' w' h2 h3 _
      obtain ⟨A', c', rfl⟩ := owns_shape h2
      have HO := Lib.hid (show OT w' w.heap.size A' n c' p xs from h2)
      have HB := Lib.hid (((Below.refl w.heap.size w).alloc (Nat.le_refl _) (.cells #[] 61)).grown h3 (by simp) (by intro k hk; simp [Value.ownBlock] at hk; omega))
      clear h2 h3
      go_wp2_with (fail)
      go_ret
      exact ⟨A', c', by rw [HL.out]; rfl, by rw [HL.out]; exact HO.out, HB.out⟩
end Go.Proofs.Ytmmadmfpbancmab
