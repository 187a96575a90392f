/-
  The contract of trimmed: what is 0 at the end is left out.
-/
import Derived.Test.YtmmadmfpbancmabTm
import Derived.Test.YtmmadmfpbancmabTrim
namespace Go.Proofs.Ytmmadmfpbancmab
open Go.RowKit
theorem OT.take {w : World} {B n c : Nat} {A : Option Addr} {p : Int} {xs : List Int} (h : OT w B A n c p xs) {k : Nat} (hk : k ≤ n) : OT w B A k c p (xs.take k) := by
  have hl := OT.len h
  have e : two (wp p (xs.take k)) = (two (wp p xs)).take (k * 2) := by
    clear h hl hk
    induction xs generalizing k with
    | nil => simp [wp, two]
    | cons x xs ih =>
      cases k with
      | zero => simp [wp, two]
      | succ k =>
        have := ih (k := k)
        simp only [wp, two, List.take_succ_cons, List.map_cons, List.flatMap_cons, List.cons_append, List.nil_append] at this ⊢
        rw [this, show (k + 1) * 2 = k * 2 + 1 + 1 by omega, List.take_succ_cons, List.take_succ_cons]
  refine ⟨by rw [two_len, wp_len, List.length_take]; omega, ?_⟩
  rcases h.2 with ⟨h1, h2⟩ | ⟨g, cap, cur, hv, hb, hg, hn, hm, hs, ht⟩
  · subst h2
    simp only [Value.slice.injEq] at h1
    obtain ⟨rfl, _, rfl⟩ := h1
    have : k = 0 := by omega
    subst this
    exact .inl ⟨rfl, rfl⟩
  · simp only [Value.slice.injEq] at hv
    obtain ⟨rfl, _, rfl⟩ := hv
    refine .inr ⟨g, c, cur, rfl, hb, hg, by omega, hm, hs, ?_⟩
    rw [e, ← ht, List.take_take]
    congr 1
    omega
theorem trimmed_any (p : Int) (A : Option Addr) (n c b : Nat) (xs : List Int) (w : World) (h : IT w A n c b p xs) :
    Calls Try.prog 64 #[.slice A n c] w fun e w' => e = .returned (.slice A (trimL xs).length c) ∧ Below w.heap.size w w' := by
  have HL := Lib.hid h.len
  have H := Lib.hid h
  have hcap := h.capn
  clear h
  go_enter Try.func64, Try.ntmps64
  go_wp2_with (fail)
  go_loopw [0] (fun v wr => ∃ m : Nat, m ≤ n ∧ v = .slice A m c ∧ Hid (trimN xs m = trimN xs n) ∧ Below w.heap.size w wr) (fun v _ => match v with | .slice _ m _ => m | _ => 0)
  case atStart => exact ⟨n, by omega, rfl, rfl, Below.refl _ _⟩
  case round =>
    obtain ⟨m, hm, rfl, htr, hbel⟩ := hrel
    by_cases h0 : m = 0
    · subst h0
      have HZ := Lib.hid (show (trimL xs).length = 0 by rw [trimL_len, HL.out, ← htr.out]; rfl)
      go_wp2_with (fail)
      go_ret
      rw [HZ.out]
      exact ⟨rfl, hbel⟩
    · obtain rfl : A = some ⟨b, 0, none⟩ := by rcases H.out.adr with ⟨_, h1, _⟩ | h1 <;> first | omega | exact h1
      obtain ⟨x, hx, hp, hc⟩ := (H.out.below hbel).cell (m - 1) (by omega)
      have hst : trimN xs m = if x = 0 then trimN xs (m - 1) else m := by
        obtain ⟨q, rfl⟩ : ∃ q, m = q + 1 := ⟨m - 1, by omega⟩
        show (if xs.getD q 0 = 0 then trimN xs q else q + 1) = _
        rw [List.getD_eq_getElem?_getD, show xs[q]? = some x from hx]; rfl
      have hmi : ((m : Int) - 1).toNat = m - 1 := by omega
      have hbig := H.out.big
      by_cases hx0 : x = 0
      · subst hx0
        have HT := Lib.hid (show trimN xs (m - 1) = trimN xs n by rw [← htr.out, hst]; rfl)
        clear hst hx
        go_wp2_with (go_at_call 90; refine (res_isZero p 0 _).mono ?_; rintro e w' ⟨rfl, hB⟩)
        have hB2 := below_more hbel hB
        clear hbel hB
        go_roundw
        case rel => exact ⟨m - 1, by omega, rfl, HT, hB2⟩
        case measure => simp; omega
      · have hx1 : (x == 0) = false := by simpa using hx0
        have hm2 : trimN xs n = m := by rw [← htr.out, hst, if_neg hx0]
        have HZ := Lib.hid (show (trimL xs).length = m by rw [trimL_len, HL.out, hm2])
        clear hst hx hm2
        go_wp2_with (go_at_call 90; refine (res_isZero p x _).mono ?_; rintro e w' ⟨rfl, hB⟩)
        have hB2 := below_more hbel hB
        clear hbel hB
        go_ret
        rw [HZ.out]
        exact ⟨rfl, hB2⟩
end Go.Proofs.Ytmmadmfpbancmab
