/-
  The contracts of l20Series and l20Poly, the drawn beginnings and polynomials.
-/
import Derived.Test.YtmmadmfpbancmabDrawM
import Derived.Test.YtmmadmfpbancmabTrim
namespace Go.Proofs.Ytmmadmfpbancmab
open Go.RowKit
/-- a drawn row: numbers of such a size -/
def RowP (row : List Int) : Prop := ∀ x ∈ row, -1 ≤ x ∧ x ≤ 17
/-- numbers that any prime bears -/
def RowQ (p : Int) (row : List Int) : Prop := ∀ x ∈ row, 0 ≤ x ∧ x < max p 1
def SerPost (rb n c cb co N L : Nat) (A : Option Addr) (p m : Int) (w : World) (e : Ending) (w' : World) : Prop :=
  ∃ (Ao : Option Addr) (ca : Nat) (xs : List Int), e = .returned (.slice Ao xs.length ca) ∧ xs.length ≤ L ∧ RowP xs ∧ (m = 0 → RowQ p xs) ∧ OI w' w.heap.size Ao xs.length ca xs ∧ Rd w' rb A n c cb co N ∧ Keep (Drw rb w.heap.size) w w'
theorem RowQ.snoc {p : Int} {row : List Int} {x : Int} (h : RowQ p row) (h0 : 0 ≤ x) (h1 : x < max p 1) : RowQ p (row ++ [x]) := fun y hy => by
  rcases List.mem_append.1 hy with hy | hy
  · exact h y hy
  · simp at hy; rw [hy]; exact ⟨h0, h1⟩
theorem RowP.snoc {row : List Int} {x : Int} (h : RowP row) (h0 : -1 ≤ x) (h1 : x ≤ 17) : RowP (row ++ [x]) := fun y hy => by
  rcases List.mem_append.1 hy with hy | hy
  · exact h y hy
  · simp at hy; rw [hy]; exact ⟨h0, h1⟩
def OddPost (m : Int) (R : World → Prop) (e : Ending) (w' : World) : Prop := ∃ b : Bool, e = .returned (.bool b) ∧ (m = 0 → b = false) ∧ R w'
theorem odd_any0 (rb n c cb co N : Nat) (A : Option Addr) (m : Int) (w : World) (h : Rd w rb A n c cb co N) (hN : N ≤ 1000000) (hm : 0 ≤ m) (hm' : m ≤ 1000000) :
    Calls Try.prog 59 #[.pointer (some ⟨rb, 0, none⟩), .int .i64 m] w
      (OddPost m fun w' => Rd w' rb A n c cb co (N + 1) ∧ Keep (· = rb) w w') := by
  by_cases h0 : 1 ≤ m
  · exact (odd_any rb n c cb co N A m w h hN h0 hm').mono fun e w' ⟨b, he, hr⟩ => ⟨b, he, fun h1 => by omega, hr⟩
  · obtain rfl : m = 0 := by omega
    go_enter Try.func59, Try.ntmps59
    go_wp2_with (fail)
    go_ret
    exact ⟨_, rfl, fun _ => rfl, h.mono (by omega), Keep.refl _ _⟩
set_option maxRecDepth 100000 in
set_option maxHeartbeats 1600000 in
theorem series_any (rb n c cb co N : Nat) (A : Option Addr) (p : Int) (most : Nat) (m : Int) (w : World) (h : Rd w rb A n c cb co N) (hN : N ≤ 900000) (hp : 0 ≤ p) (hp' : p ≤ 17) (hmost : most ≤ 30) (hm : 0 ≤ m) (hm' : m ≤ 1000000) :
    Calls Try.prog 51 #[.pointer (some ⟨rb, 0, none⟩), .int .i64 p, .int .i64 (most : Int), .int .i64 m] w (SerPost rb n c cb co (N + 40) 31 A p m w) := by
  have hrb := h.lt
  have hcb := fun hn => h.ltc hn
  have hmax : 1 ≤ max p 1 ∧ max p 1 ≤ 17 := by omega
  have hmk := run_make_row' (P := Try.prog) 23 3 (.int .i64 0) 8 Try.underlying23 infoInt rfl .i64 .i64 25 (by omega) (by omega)
  have h9 : ((25 : Nat) : Int) = 25 := rfl
  simp only [h9] at hmk
  clear h9
  have HR0 := Lib.hid h
  have HCB := Lib.hid hcb
  clear h hcb
  go_enter Try.func51, Try.ntmps51
  go_wp2_with (fail)
  refine (pick_any rb n c cb co N A _ _ (HR0.out.alloc _) (by omega)).mono ?_
  rintro e w1 ⟨j0, rfl, hj0, hR1, hK1⟩
  have hj0 := hj0 (by omega)
  have HR1 := Lib.hid hR1
  have HK1 := Lib.hid (((Keep.refl (Drw rb w.heap.size) w).alloc (.cells #[] 3)).trans hK1.drwR)
  have HO1 := Lib.hid (owns_keep (OI.empty w) hK1 (fun g hg hs => by simp [Value.ownBlock] at hg; omega))
  have hs1 := hK1.size
  clear hR1 hK1
  go_wp2_with (fail)
  go_loopw [9, 10] (fun v i wr => ∃ (k q : Nat) (A1 : Option Addr) (c1 : Nat) (row : List Int), k + q = j0 ∧ i = .int .i64 (k : Int) ∧ v = .slice A1 q c1 ∧ OI wr w.heap.size A1 q c1 row ∧ Rd wr rb A n c cb co (N + 1 + q) ∧ Keep (Drw rb w.heap.size) w wr ∧ Hid (RowP row) ∧ Hid (RowQ p row)) (fun _ i _ => (intOf i).toNat)
  case atStart => exact ⟨j0, 0, _, _, [], by omega, rfl, rfl, HO1.out, HR1.out, HK1.out, fun x h => by simp at h, fun x h => by simp at h⟩
  case round =>
    obtain ⟨k, q, A1, c1, row, hkq, rfl, rfl, hown, hrd, hki, hrow, hrq⟩ := hrel
    have hsi := hki.size
    have hrl := hown.len
    have HO := Lib.hid hown
    have HKI := Lib.hid hki
    have HRD := Lib.hid hrd
    clear hown hrd hki
    by_cases hk0 : 0 < k
    · go_wp2_with (fail)
      all_goals
        refine (pick_any rb n c cb co _ A _ _ HRD.out (by omega)).mono ?_
        rintro e w2 ⟨j1, rfl, hj1, hR2, hK2⟩
        have hj1 := hj1 (by omega)
        have HO2 := Lib.hid (owns_keep HO.out hK2 (fun g hg hs => by have := (HO.out.lt g hg).1; omega))
        have hs2 := hK2.size
        have HR2 := Lib.hid hR2
        have HK2 := Lib.hid (HKI.out.trans hK2.drwR)
        clear hR2 hK2
        go_wp2_with (at_builtin; refine wpList_app_int rfl (.tmp 20) (.tmp 25) rfl w.heap.size A1 q c1 row rfl (World.ownsRow.alloc HO2.out _) _ _ _ rfl (cellNew _ _ _) (by omega) ?_ ?_)
        · simp; omega
        · intro A4 c4 w4 hI4 hK4
          have HI4 := Lib.hid hI4
          have hst : ∀ g, (Value.slice A1 q c1).ownBlock = some g → w.heap.size ≤ g := fun g hg => (HO2.out.lt g hg).1
          have HR4 := Lib.hid ((HR2.out.alloc _).far hK4 (B := w.heap.size) (by omega) (fun hn => HCB.out hn) hst)
          have HK4 := Lib.hid ((HK2.out.alloc _).trans (hK4.drwB hst))
          clear hI4 hK4 hst
          go_wp2_with (fail)
          go_roundw
          case rel => exact ⟨k - 1, q + 1, A4, c4, _, by omega, by go_num, rfl, HI4.out, HR4.out.mono (by omega), HK4.out, hrow.out.snoc (by omega) (by omega), hrq.out.snoc (by omega) (by omega)⟩
          case measure => simp [intOf]; omega
    · obtain rfl : k = 0 := by omega
      go_wp2_with (fail)
      refine (odd_any0 rb n c cb co _ A m _ HRD.out (by omega) hm hm').mono ?_
      rintro e w2 ⟨b, rfl, hb0, hR2, hK2⟩
      have HB0 := Lib.hid hb0
      clear hb0
      have HO2 := Lib.hid (owns_keep HO.out hK2 (fun g hg hs => by have := (HO.out.lt g hg).1; omega))
      have hs2 := hK2.size
      have HR2 := Lib.hid hR2
      have HK2 := Lib.hid (HKI.out.trans hK2.drwR)
      clear hR2 hK2
      cases b
      · go_wp2_with (fail)
        go_ret
        exact ⟨A1, c1, row, by rw [hrl]; rfl, by omega, hrow.out, fun _ => hrq.out, by rw [hrl]; exact HO2.out, HR2.out.mono (by omega), HK2.out⟩
      · go_wp2_with (fail)
        refine (pick_any rb n c cb co _ A _ _ HR2.out (by omega)).mono ?_
        rintro e w3 ⟨j3, rfl, hj3, hR3, hK3⟩
        have HO3 := Lib.hid (owns_keep HO2.out hK3 (fun g hg hs => by have := (HO2.out.lt g hg).1; omega))
        have hs3 := hK3.size
        have HR3 := Lib.hid hR3
        have HK3 := Lib.hid (HK2.out.trans hK3.drwR)
        clear hR3 hK3
        by_cases hj0 : (j3 : Int) = 0
        · go_wp2_with (at_builtin; refine wpList_app_int rfl (.tmp 33) (.tmp 35) rfl w.heap.size A1 q c1 row rfl (World.ownsRow.alloc HO3.out _) _ _ _ rfl (cellNew _ _ _) (by omega) ?_ ?_)
          · simp; omega
          · intro A4 c4 w4 hI4 hK4
            have HI4 := Lib.hid hI4
            have hst : ∀ g, (Value.slice A1 q c1).ownBlock = some g → w.heap.size ≤ g := fun g hg => (HO3.out.lt g hg).1
            have HR4 := Lib.hid ((HR3.out.alloc _).far hK4 (B := w.heap.size) (by omega) (fun hn => HCB.out hn) hst)
            have HK4 := Lib.hid ((HK3.out.alloc _).trans (hK4.drwB hst))
            clear hI4 hK4 hst
            go_wp2_with (fail)
            go_ret
            exact ⟨A4, c4, row ++ [p], by simp [hrl], by simp; omega, hrow.out.snoc (by omega) (by omega), fun h0 => Bool.noConfusion (HB0.out h0), by simpa [hrl] using HI4.out, HR4.out.mono (by omega), HK4.out⟩
        · go_wp2_with (fail)

          go_ret
          exact ⟨some ⟨w3.heap.size, 0, none⟩, 25, List.replicate 25 0, rfl, by simp, fun x hx => by rw [(List.mem_replicate.1 hx).2]; omega, fun h0 => Bool.noConfusion (HB0.out h0), owns_mono (made_ints w3 25 (by omega)) (show w.heap.size ≤ w3.heap.size by omega), (HR3.out.alloc _).mono (by omega), HK3.out.alloc _⟩
theorem wpList_app_int2 {ops : Array Oper} {rest : List Oper} {o : Oper} {a : Act} {Q : Exit → Act → World → Prop} {w : World} (hgd : o.guard = none) (s x : Operand)
    (ho : o.op = .call { callee := .builtin .append, args := #[s, x], argTypes := #[23, 23] })
    (B : Nat) (A : Option Addr) (n c : Nat) (xs : List Int) (hs : a.eval s = .slice A n c) (hown : OI w B A n c xs) (z1 z2 : Int) (g c1 : Nat) (hx : a.eval x = .slice (some ⟨g, 0, none⟩) 2 c1) (hcell : w.cell? ⟨g, 0, none⟩ = some (.int .i64 z1)) (hcell2 : w.cell? ⟨g, 1, none⟩ = some (.int .i64 z2))
    (hn : n ≤ 1000000000) (hB : B ≤ w.heap.size)
    (h : ∀ (A' : Option Addr) (c' : Nat) (w' : World), OI w' B A' (n + 2) c' (xs ++ [z1, z2]) → Keep (fun k => (Value.slice A n c).ownBlock = some k) w w' → wpList Try.prog ops Q rest (a.put o.dst (.slice A' (n + 2) c')) w') :
    wpList Try.prog ops Q (o :: rest) a w := by
  obtain ⟨i0, hi, hz0, hz1, hz2⟩ := info_parts infoInt
  refine wpList_append_own w hgd s x 23 ho B 3 i0 (.int .i64 0) 1 8 Try.underlying23 hi hz0 hz1 hz2 rfl (by decide) _ n (ints xs) hs hown ⟨g, 0, none⟩ 2 c1 [.int .i64 z1, .int .i64 z2] hx rfl ?_ ?_ ?_ ?_ hB ?_
  · intro j u hj
    match j, hj with
    | 0, hj => simp at hj; subst hj; simpa [Addr.add] using hcell
    | 1, hj => simp at hj; subst hj; simpa [Addr.add] using hcell2
    | j + 2, hj => simp at hj
  · intro u hu; simp at hu; rcases hu with rfl | rfl <;> rfl
  · unfold maxLen; omega
  · omega
  · intro v' w' h2 h3 _
    obtain ⟨A', c', rfl⟩ := owns_shape h2
    exact h A' c' w' (by unfold OI; simpa [ints] using h2) (keep_grown h3)
theorem trim_mem2 {xs : List Int} (h : RowP xs) : RowP (trimL xs) := fun x hx => h x (List.mem_of_mem_take hx)
theorem trim_le2 (xs : List Int) : (trimL xs).length ≤ xs.length := by rw [trimL_len]; exact trimN_le _ _
set_option maxRecDepth 100000 in
set_option maxHeartbeats 1600000 in
theorem poly_any (rb n c cb co N : Nat) (A : Option Addr) (p : Int) (most : Nat) (m : Int) (w : World) (h : Rd w rb A n c cb co N) (hN : N ≤ 800000) (hp : 0 ≤ p) (hp' : p ≤ 17) (hmost : most ≤ 30) (hm : 0 ≤ m) (hm' : m ≤ 1000000) :
    Calls Try.prog 34 #[.pointer (some ⟨rb, 0, none⟩), .int .i64 p, .int .i64 (most : Int), .int .i64 m] w (SerPost rb n c cb co (N + 50) 33 A p m w) := by
  have hrb := h.lt
  have hcb := fun hn => h.ltc hn
  have HR0 := Lib.hid h
  have HCB := Lib.hid hcb
  clear h hcb
  go_enter Try.func34, Try.ntmps34
  go_wp2_with (fail)
  refine (series_any rb n c cb co N A p most 0 _ HR0.out (by omega) hp hp' hmost (by decide) (by decide)).mono ?_
  rintro e w1 ⟨A1, c1, xs, rfl, hxl, hxr, hxq, hO1, hR1, hK1⟩
  obtain ⟨b1, hI1, hA1⟩ := OI.iaA hO1
  have hcap1 := OI.capLe hO1
  have hs1 := hK1.size
  have HI1 := Lib.hid hI1
  have HR1 := Lib.hid hR1
  have HK1 := Lib.hid hK1
  have HX := Lib.hid hxr
  have HXQ := Lib.hid (hxq rfl)
  clear hxq
  obtain ⟨L, hL⟩ : ∃ L, xs.length = L := ⟨_, rfl⟩
  rw [hL] at HI1 hcap1 hxl ⊢
  have HLL := Lib.hid hL
  clear hO1 hI1 hR1 hK1 hxr hL
  go_wp2_with (fail)
  refine (specTrim A1 L c1 b1 0 xs _ HI1.out (by omega) hcap1 hA1).mono ?_
  rintro e w2 ⟨A2, c2, rfl, hO2, hB2⟩
  obtain ⟨ys, hys⟩ : ∃ ys, trimL xs = ys := ⟨_, rfl⟩
  have hyl : ys.length ≤ 31 := by rw [← hys]; have := trim_le2 xs; have := HLL.out; omega
  have HYQ := Lib.hid (show RowQ p ys by rw [← hys]; exact fun x hx => HXQ.out x (List.mem_of_mem_take hx))
  have HY := Lib.hid (show RowP ys by rw [← hys]; exact trim_mem2 HX.out)
  rw [hys] at hO2 ⊢
  obtain ⟨M, hM⟩ : ∃ M, ys.length = M := ⟨_, rfl⟩
  rw [hM] at hO2 hyl ⊢
  have HML := Lib.hid hM
  have HO2 := Lib.hid hO2
  have hs2 := hB2.size
  have HR2 := Lib.hid (HR1.out.far (keep_of_below hB2) (B := w1.heap.size) (by omega) (fun hn => Nat.lt_of_lt_of_le (HCB.out hn) hs1) (fun g h => h.elim))
  have HK2 := Lib.hid (HK1.out.trans ((keep_of_below hB2).mono (fun g _ h => h.elim)))
  clear hO2 hB2 hys hM
  go_wp2_with (fail)
  refine (odd_any0 rb n c cb co _ A m _ HR2.out (by omega) hm hm').mono ?_
  rintro e w3 ⟨b, rfl, hb0, hR3, hK3⟩
  have HB0 := Lib.hid hb0
  clear hb0
  have HO3 := Lib.hid (owns_keep HO2.out hK3 (fun g hg hs => by have := (HO2.out.lt g hg).1; omega))
  have hs3 := hK3.size
  have HR3 := Lib.hid hR3
  have HK3 := Lib.hid (HK2.out.trans hK3.drwR)
  clear hR3 hK3
  cases b
  · go_wp2_with (fail)
    go_ret
    exact ⟨A2, c2, ys, by rw [HML.out]; rfl, by rw [HML.out]; omega, HY.out, fun _ => HYQ.out, by rw [HML.out]; exact owns_mono HO3.out hs1, HR3.out.mono (by omega), HK3.out⟩
  · go_wp2_with (fail)
    refine (pick_any rb n c cb co _ A _ _ HR3.out (by omega)).mono ?_
    rintro e w4 ⟨j3, rfl, hj3, hR4, hK4⟩
    have HO4 := Lib.hid (owns_keep HO3.out hK4 (fun g hg hs => by have := (HO3.out.lt g hg).1; omega))
    have hs4 := hK4.size
    have HR4 := Lib.hid hR4
    have HK4 := Lib.hid (HK3.out.trans hK4.drwR)
    have hst : ∀ g, (Value.slice A2 M c2).ownBlock = some g → w.heap.size ≤ g := fun g hg => by have := (HO4.out.lt g hg).1; omega
    have HST := Lib.hid hst
    clear hR4 hK4 hst
    by_cases hj0 : (j3 : Int) = 0
    · go_wp2_with (at_builtin; refine wpList_app_int rfl (.tmp 21) (.tmp 22) rfl w1.heap.size A2 M c2 ys rfl (World.ownsRow.alloc HO4.out _) _ _ _ rfl (cellNew _ _ _) (by omega) ?_ ?_)
      · simp; omega
      · intro A5 c5 w5 hI5 hK5
        have HI5 := Lib.hid hI5
        have HR5 := Lib.hid ((HR4.out.alloc _).far hK5 (B := w.heap.size) (by omega) (fun hn => HCB.out hn) HST.out)
        have HK5 := Lib.hid ((HK4.out.alloc _).trans (hK5.drwB HST.out))
        clear hI5 hK5
        go_wp2_with (fail)
        go_ret
        exact ⟨A5, c5, ys ++ [0], by simp [HML.out], by simp [HML.out]; omega, HY.out.snoc (by omega) (by omega), fun h0 => Bool.noConfusion (HB0.out h0), by rw [List.length_append, HML.out]; exact owns_mono HI5.out hs1, HR5.out.mono (by omega), HK5.out⟩
    · go_wp2_with (at_builtin; refine wpList_app_int2 rfl (.tmp 24) (.tmp 25) rfl w1.heap.size A2 M c2 ys rfl (World.ownsRow.alloc HO4.out _) (-1) 1 _ _ rfl (by simp) (by simp) (by omega) ?_ ?_)
      · simp; omega
      · intro A5 c5 w5 hI5 hK5
        have HI5 := Lib.hid hI5
        have HR5 := Lib.hid ((HR4.out.alloc _).far hK5 (B := w.heap.size) (by omega) (fun hn => HCB.out hn) HST.out)
        have HK5 := Lib.hid ((HK4.out.alloc _).trans (hK5.drwB HST.out))
        clear hI5 hK5
        go_wp2_with (fail)
        go_ret
        exact ⟨A5, c5, ys ++ [-1, 1], by simp [HML.out], by simp [HML.out]; omega, by rw [show ys ++ [-1, 1] = (ys ++ [-1]) ++ [1] by simp]; exact (HY.out.snoc (by omega) (by omega)).snoc (by omega) (by omega), fun h0 => Bool.noConfusion (HB0.out h0), by rw [List.length_append, HML.out]; exact owns_mono HI5.out hs1, HR5.out.mono (by omega), HK5.out⟩
end Go.Proofs.Ytmmadmfpbancmab
