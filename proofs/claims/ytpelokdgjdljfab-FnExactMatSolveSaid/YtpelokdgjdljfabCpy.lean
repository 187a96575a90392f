/-
  copy of a whole slice of integers into one of the call's own, append of a whole slice of integers; the contract of copyRows.
-/
import Derived.Test.YtpelokdgjdljfabRed
import Derived.Laws.CopyOwn
namespace Go.Proofs.Ytpelokdgjdljfab
open Go.RowKit
theorem ints_one (xs : List Int) : ∀ v ∈ ints xs, v.oneCell' = true := by
  intro v hv
  obtain ⟨x, _, rfl⟩ := List.mem_map.1 hv
  rfl
theorem ints_len (xs : List Int) : (ints xs).length = xs.length := by simp [ints]
theorem IA.src {w : World} {n b o : Nat} {A : Option Addr} {xs : List Int} (h : IA w A n b o xs) : ∀ j v, (ints xs)[j]? = some v → w.cell? ((⟨b, o, none⟩ : Addr).add j) = some v := by
  intro j v hv
  unfold ints at hv
  rw [List.getElem?_map] at hv
  obtain ⟨x, hx, rfl⟩ := Option.map_eq_some_iff.1 hv
  have hj : j < n := by have := (List.getElem?_eq_some_iff.1 hx).1; rw [h.len] at this; exact this
  obtain ⟨y, hy, hc⟩ := h.cell j hj
  rw [hx] at hy
  obtain rfl := Option.some.inj hy
  rw [addrAdd _ _ rfl]; exact hc
theorem infoSize : (Try.prog.info? 3).map (·.size) = some 1 := by kernel_rfl
theorem wpList_cpy {ops : Array Oper} {rest : List Oper} {o : Oper} {a : Act} {Q : Exit → Act → World → Prop} {w : World} (hgd : o.guard = none) (d s : Operand)
    (ho : o.op = .call { callee := .builtin .copy, args := #[d, s], argTypes := #[30, 30] })
    (B g n c : Nat) (xs : List Int) (hd : a.eval d = .slice (some ⟨g, 0, none⟩) n c) (hown : OI w B (some ⟨g, 0, none⟩) n c xs) (c1 b1 o1 : Nat) (ys : List Int) (hs : a.eval s = .slice (some ⟨b1, o1, none⟩) n c1) (hsrc : IA w (some ⟨b1, o1, none⟩) n b1 o1 ys)
    (h : ∀ w' v, OI w' B (some ⟨g, 0, none⟩) n c ys → Keep (· = g) w w' → wpList Try.prog ops Q rest (a.put o.dst v) w') :
    wpList Try.prog ops Q (o :: rest) a w := by
  have hys := hsrc.len
  rcases hown.2 with ⟨h1, _⟩ | ⟨g', cap, cur, hv, hb, hg, hnc, hcm, hcs, htk⟩
  · simp at h1
  · simp only [Value.slice.injEq, Option.some.injEq, Addr.mk.injEq, and_true, true_and] at hv
    obtain ⟨rfl, rfl⟩ := hv
    refine wpList_copy_own hgd d s 30 30 ho 3 Try.underlying30 infoSize g 0 n c ⟨b1, o1, none⟩ n c1 hd hs cur 3 hg (ints ys) (by rw [ints_len, hys]; simp) hsrc.src (by rw [ints_len, hys]; omega) (ints_one ys) ?_
    refine h _ _ ⟨by rw [ints_len, hys]; omega, .inr ⟨g, c, _, rfl, hb, setRow_heap w g _ _ 3 _ hg, hnc, hcm, ?_, ?_⟩⟩ ⟨rfl, rfl, rfl, by simp [World.setRow], fun k _ hk => setRow_other w g k _ hk⟩
    · simp [ints_len, hys]; omega
    · simp [ints_len, hys]
theorem wpList_app_ints {ops : Array Oper} {rest : List Oper} {o : Oper} {a : Act} {Q : Exit → Act → World → Prop} {w : World} (hgd : o.guard = none) (s x : Operand)
    (ho : o.op = .call { callee := .builtin .append, args := #[s, x], argTypes := #[30, 30] })
    (B : Nat) (A : Option Addr) (n c : Nat) (xs : List Int) (hs : a.eval s = .slice A n c) (hown : OI w B A n c xs) (m c1 b1 o1 : Nat) (ys : List Int) (hx : a.eval x = .slice (some ⟨b1, o1, none⟩) m c1) (hsrc : IA w (some ⟨b1, o1, none⟩) m b1 o1 ys)
    (hn : n + m ≤ 1000000000) (hB : B ≤ w.heap.size)
    (h : ∀ (A' : Option Addr) (c' : Nat) (w' : World), OI w' B A' (n + m) c' (xs ++ ys) → Keep (fun k => (Value.slice A n c).ownBlock = some k) w w' → wpList Try.prog ops Q rest (a.put o.dst (.slice A' (n + m) c')) w') :
    wpList Try.prog ops Q (o :: rest) a w := by
  have hys := hsrc.len
  obtain ⟨i0, hi, hz0, hz1, hz2⟩ := info_parts infoInt
  refine wpList_append_own w hgd s x 30 ho B 3 i0 (.int .i64 0) 1 8 Try.underlying30 hi hz0 hz1 hz2 rfl (by decide) _ n (ints xs) hs hown ⟨b1, o1, none⟩ m c1 (ints ys) hx (by rw [ints_len, hys]; omega) hsrc.src (ints_one ys) ?_ ?_ hB ?_
  · unfold maxLen; omega
  · omega
  · intro v' w' h2 h3 _
    obtain ⟨A', c', rfl⟩ := owns_shape h2
    exact h A' c' w' (by unfold OI; simpa [ints] using h2) (keep_grown h3)
theorem copyRows_any (A : Option Addr) (n c b o l : Nat) (M : List (List Int)) (w : World) (h : RA w A n b o M) (hn : n ≤ 8) (hl1 : 1 ≤ l) (hl8 : l ≤ 9) (hr : ∀ row ∈ M, row.length = l) :
    Calls Try.prog 62 #[.slice A n c] w (MadeM n M w) := by
  have hlen := h.len
  have HL := Lib.hid hlen
  have H := Lib.hid h
  have HR := Lib.hid hr
  have hmk := run_make_row' (P := Try.prog) 23 30 (.slice none 0 0) 24 Try.underlying23 infoInts rfl .i64 .i64 n (by omega) (by omega)
  have hmk2 := run_make_row' (P := Try.prog) 30 3 (.int .i64 0) 8 Try.underlying30 infoInt rfl .i64 .i64 l (by omega) (by omega)
  clear h hlen hr
  go_enter Try.func62, Try.ntmps62
  go_wp2_with (fail)
  go_loopw [11] (fun i wr => ∃ (k : Nat) (vs : List Value), k ≤ n ∧ i = .int .i64 k ∧ Half wr w.heap.size n k M vs ∧ Below w.heap.size w wr) (fun i _ => n - (intOf i).toNat)
  case atStart => exact ⟨0, [], by omega, rfl, Half.start w n M (by omega), (Below.refl _ _).alloc (Nat.le_refl _) _⟩
  case round =>
    obtain ⟨k, vs, hk, rfl, hown, hbel⟩ := hrel
    obtain ⟨wo, rfl⟩ : ∃ wo : World, wo = wr := ⟨_, rfl⟩
    by_cases hlt : k < n
    · have hs0 := hbel.size
      have hB0 := (hown.out.lt w.heap.size rfl).2
      obtain rfl := H.out.adr (by omega)
      obtain ⟨row, A1, c1, b1, o1, hrw, hcw, hI⟩ := H.out.row k hlt
      have hc := (keep_of_below hbel).cell hcw (fun h => h)
      have hrl := HR.out row (List.mem_of_getElem? hrw)
      rw [hrl] at hc hI
      obtain rfl := hI.adr (by omega)
      have hmade := made_ints wo l (by omega)
      have hML := HL.out
      have hzl : (List.replicate l (0 : Int)).length = l := by simp
      have hst := (hown.congr (M' := M.set k (List.replicate l 0)) (fun r hr => List.getElem?_set_ne (by omega))).step hlt (by simp [hML]) ((Below.refl wo.heap.size wo).alloc (Nat.le_refl _) (.cells (madeCells #[.int .i64 0] l) 3))
        (row := List.replicate l 0) (A := some ⟨wo.heap.size, 0, none⟩) (c := l) (List.getElem?_set_self (by omega)) (by rw [hzl]; exact hmade)
      rw [hzl] at hst
      have heq := World.setCell_alloc_past (w := wo) (.cells (madeCells #[.int .i64 0] l) 3) w.heap.size k (.slice (some ⟨wo.heap.size, 0, none⟩) l l) hB0
      rw [heq] at hst
      have ho := World.ownsRow.alloc hown.out (.cells (madeCells #[.int .i64 0] l) 3)
      have hcell := World.ownsRow.cellAt ho k (by omega)
      have hfr := World.ownsRow.frozenAt ho k
      obtain ⟨v0, hv0⟩ : ∃ v0, (wo.alloc (.cells (madeCells #[.int .i64 0] l) 3)).cell? ⟨w.heap.size, k, none⟩ = some v0 := by
        rw [hcell]; exact ⟨_, List.getElem?_eq_getElem (by have := hown.vlen; simp; omega)⟩
      obtain ⟨v1, hv1⟩ : ∃ v1, wo.cell? ⟨w.heap.size, k, none⟩ = some v1 := by
        rw [World.ownsRow.cellAt hown.out k (by omega)]; exact ⟨_, List.getElem?_eq_getElem (by have := hown.vlen; simp; omega)⟩
      have hout := World.cell?_setCell_same _ _ (.slice (some ⟨wo.heap.size, 0, none⟩) l l) hv1
      have HB := Lib.hid (show Below w.heap.size w ((wo.setCell ⟨w.heap.size, k, none⟩ (.slice (some ⟨wo.heap.size, 0, none⟩) l l)).alloc (.cells (madeCells #[.int .i64 0] l) 3)) from heq ▸ (hbel.alloc hs0 _).setCell (Nat.le_refl _) _)
      have hvl := hown.vlen
      have hvk : (vs ++ [Value.slice (some ⟨wo.heap.size, 0, none⟩) l l])[k]? = some (.slice (some ⟨wo.heap.size, 0, none⟩) l l) := by
        rw [List.getElem?_append_right (by omega)]; simp [hvl]
      have hMk : (M.set k (List.replicate l (0 : Int)))[k]? = some (List.replicate l 0) := List.getElem?_set_self (by omega)
      obtain ⟨A3, c3, hv3, hI3⟩ := hst.1.row k _ (by omega) hMk
      rw [hvk, hzl] at hv3
      simp only [Option.some.injEq, Value.slice.injEq, true_and] at hv3
      obtain ⟨rfl, rfl⟩ := hv3
      rw [hzl] at hI3
      have HST := Lib.hid hst.1
      have HVK := Lib.hid hvk
      have HMK := Lib.hid hMk
      have HI3 := Lib.hid hI3
      have HI := Lib.hid hI
      have HRW := Lib.hid hrw
      have HRL := Lib.hid hrl
      clear hcell ho hst heq hmade hown hbel hrw hcw hI hrl hzl hvk hMk hI3 hML
      go_wp2_with (with_reducible refine wpList_cpy rfl (.tmp 25) (.tmp 26) rfl (w.heap.size + 1) wo.heap.size l l (List.replicate l 0) rfl HI3.out c1 b1 o1 row rfl (HI.out.below HB.out) ?_)
      intro w5 v5 hI5 hK5
      have hset := HST.out.setRow (new := row) (by omega) HMK.out (by simpa using HVK.out) (by simp [HRL.out]) (by simpa using hI5) (hK5.mono (fun q _ hq => by rw [hq]; rfl))
      rw [List.set_set] at hset
      have HS := Lib.hid (hset.congr (M' := M) (fun r _ => by
        by_cases e : r = k
        · subst e; rw [List.getElem?_set_self (by rw [HL.out]; exact hlt)]; exact HRW.out
        · exact (List.getElem?_set_ne (fun e' => e e'.symm)).symm))
      have HB5 := Lib.hid (HB.out.trans (hK5.below (B := w.heap.size) HB.out.size (fun q hq => by rw [hq]; exact hs0)))
      clear hset hI5 hK5
      go_wp2_with (fail)
      go_roundw
      case rel => exact ⟨k + 1, _, by omega, by go_num, HS.out, HB5.out⟩
      case measure => simp [intOf]; omega
    · obtain rfl : k = n := by omega
      have HO := Lib.hid (hown.done HL.out)
      clear hown
      go_wp2_with (fail)
      go_ret
      exact ⟨_, _, _, rfl, HO.out, hbel⟩
end Go.Proofs.Ytpelokdgjdljfab
