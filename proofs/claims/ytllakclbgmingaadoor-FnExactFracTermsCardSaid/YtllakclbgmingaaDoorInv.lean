/-
  The contract of inverse.
-/
import Derived.Test.YtllakclbgmingaaDoorTi
import Derived.Test.YtllakclbgmingaaDoorPolN
import Derived.Deep.RegionHeld3
namespace Go.Proofs.YtllakclbgmingaaDoor
open Go.RowKit
theorem IT.drew {w : World} {A : Option Addr} {n c b : Nat} {p : Int} {xs : List Int} (h : IT w A n c b p xs) : IT w.drew A n c b p xs := ⟨h.len, h.adr, h.capn, h.big, h.cell⟩
theorem below_undrew {B : Nat} {w w' : World} (h : Below B w.drew w') : Below B w w' := ⟨h.os, h.tape, h.output, h.size, h.block⟩
theorem Box.grown5 {w w1 w2 : World} {sb : Nat} {p s : Int} {row : Option Nat} (h : Box w w1 sb p s) (hg : w1.grownBy w2 row) (hne : ∀ q, row = some q → sb < q) : Box w w2 sb p s := by
  have hk : w2.heap[sb]? = w1.heap[sb]? := hg.block sb h.hi (fun e => by have := hne sb e.symm; omega)
  exact ⟨h.lo, Nat.lt_of_lt_of_le h.hi hg.size, (World.cell?_of_block (w := w1) (a := ⟨sb, 0, none⟩) hk).trans h.c0, (World.cell?_of_block (w := w1) (a := ⟨sb, 1, none⟩) hk).trans h.c1, (World.frozen?_of_block (w := w1) (a := ⟨sb, 0, none⟩) hk).trans h.f0, (World.frozen?_of_block (w := w1) (a := ⟨sb, 1, none⟩) hk).trans h.f1,
    h.bel.grown hg h.bel.size (fun q hq => by have := hne q hq; have := h.lo; omega)⟩
theorem step_app_two {ops : Array Oper} {o : Oper} {a : Act} {w : World} {K : Act → World → Prop} {Q : Exit → Act → World → Prop} {E : Prop} (hg : o.guard = none) (s x : Operand)
    (ho : o.op = .call { callee := .builtin .append, args := #[s, x], argTypes := #[51, 51] })
    (B : Nat) (A : Option Addr) (n c : Nat) (zs : List (Int × Int)) (hs : a.eval s = .slice A n c) (hown : OZ w B A n c zs) (ad : Addr) (c1 : Nat) (z : Int × Int) (hx : a.eval x = .slice (some ad) 1 c1)
    (h0 : w.cell? (ad.add 0) = some (.int .i64 z.1)) (h1 : w.cell? (ad.add 1) = some (.int .i64 z.2)) (hn : n ≤ 1000000) (hB : B ≤ w.heap.size)
    (h : ∀ (A' : Option Addr) (c' : Nat) (w' : World), OZ w' B A' (n + 1) c' (zs ++ [z]) → w.grownBy w' (Value.slice A n c).ownBlock → K (a.put o.dst (.slice A' (n + 1) c')) w') :
    if Region.wanted o (yielded ops a.tmps) = true then Oper.wp Tryd.prog o a w K Q else E := by
  have hw : Region.wanted o (yielded ops a.tmps) = true := by simp [Region.wanted, hg]
  rw [if_pos hw]
  obtain ⟨i0, hi, hz0, hz1, hz2⟩ := info_parts infoRes
  refine wp_append_own w s x 51 ho B 69 i0 (.agg #[.int .i64 0, .int .i64 0]) 2 16 Tryd.underlying51 hi hz0 hz1 hz2 rfl (by decide) _ n (two zs) hs hown ad 1 c1 (two [z]) hx rfl ?_ (two_one _) ?_ ?_ hB ?_
  · intro j u hj
    match j, hj with
    | 0, hj => simp [two] at hj; subst hj; exact h0
    | 1, hj => simp [two] at hj; subst hj; exact h1
    | j + 2, hj => simp [two] at hj
  · unfold maxLen; omega
  · omega
  · intro v' w' h2 h3 _
    obtain ⟨A', c', rfl⟩ := owns_shape h2
    exact h A' c' w' (by unfold OZ; simpa [two] using h2) h3
theorem bk_step {p : Int} {s : List Int} {bk : Int} {k : Nat} (hp : primeB p = true) (hk : 1 ≤ k) :
    bkL p s bk (k + 1) = bkL p s bk k ++ [(p - conv s (bkL p s bk k) k % p * bk % p) % p] := by
  have hpb := prime_ge hp
  show bkL p s bk k ++ [_] = _
  congr 2
  rw [if_neg (by omega)]
  have e : conv s (bkL p s bk k) k = sigN k (fun j => co s (j + 1) * co (bkL p s bk k) (k - 1 - j)) := by
    unfold conv
    rw [sigN_shift]
    rw [getD_far (xs := bkL p s bk k) (by rw [bkL_len]; omega), Int.mul_zero, Int.zero_add]
    exact sigN_congr fun j hj => by show co s (j + 1) * co (bkL p s bk k) (k - (j + 1)) = _; rw [show k - (j + 1) = k - 1 - j by omega]
  rw [e]
  generalize sigN k (fun j => co s (j + 1) * co (bkL p s bk k) (k - 1 - j)) = S
  apply mod_of_near
  have h1 := near_mod p (-S)
  have h2 := near_mod p S
  have h3 := near_mod p (S % p * bk)
  generalize -S % p = u at h1 ⊢
  generalize S % p = v at h2 h3 ⊢
  generalize v * bk % p = q at h3 ⊢
  have h4 := Int.dvd_add (Int.dvd_add (Int.dvd_add (dvd_mulR h1 bk) (dvd_mulR h2 bk)) h3) (Int.dvd_neg.2 (Int.dvd_refl p))
  rwa [show (u - -S) * bk + (v - S) * bk + (q - v * bk) + -p = u * bk - (p - q) by grind] at h4
set_option maxRecDepth 100000 in
set_option maxHeartbeats 4000000 in
theorem inverse_any (p : Int) (A : Option Addr) (n c b : Nat) (s : List Int) (w : World) (h : IT w A n c b p s) (hpr : primeB p = true) (hs : ∀ x ∈ s, numB p x = true) (hn : n ≤ 100000) (h1 : 1 ≤ n) (h0 : co s 0 ≠ 0) :
    Calls Tryd.prog 50 #[.slice A n c] w (MadeT p (backL p s) w) := by
  have HL := Lib.hid h.len
  have H := Lib.hid h
  have hcap := h.capn
  have hbig := h.big
  obtain rfl : A = some ⟨b, 0, none⟩ := by rcases h.adr with ⟨_, h1, _⟩ | h1 <;> first | omega | exact h1
  obtain ⟨x, hx, hxp, hxc⟩ := h.cell 0 (by omega)
  simp only [Nat.zero_mul, Nat.zero_add] at hxp hxc
  have hxv := hs x (List.mem_of_getElem? hx)
  have hx0 : x ≠ 0 := by have : co s 0 = x := getD_at hx; rwa [this] at h0
  have HV := Lib.hid (And.intro hxv hx0)
  have HS := Lib.hid hs
  have HP := Lib.hid hpr
  clear h hs hpr h0 hxv hx0
  go_enter Tryd.func50, Tryd.ntmps50
  go_wp2_with (fail)
  refine (res_back p x _ HV.out.1 HV.out.2).mono ?_
  rintro e w1 ⟨rfl, hB1⟩
  obtain ⟨bk, hbk⟩ : ∃ bk, invM p x = bk := ⟨_, rfl⟩
  rw [hbk]
  have hbkv : numB p bk = true := by rw [← hbk]; exact numB_mk HP.out (inv_bd HP.out).1 (inv_bd HP.out).2
  have HBK := Lib.hid hbkv
  have HR := Lib.hid (show backL p s = bkL p s bk n by unfold backL; rw [show co s 0 = x from getD_at hx, hbk, HL.out])
  have HB1 := Lib.hid hB1
  have hs1 := hB1.size
  clear hbk hbkv hx hB1
  go_wp2_with (fail)
  go_loopw [4, 5] (fun v4 v5 wr => ∃ (k : Nat) (A4 : Option Addr) (c4 : Nat), 1 ≤ k ∧ k ≤ n ∧ v5 = .int .i64 (k : Int) ∧ v4 = .slice A4 k c4 ∧ OT wr (w1.heap.size + 1) A4 k c4 p (bkL p s bk k) ∧ Box w wr w1.heap.size p bk) (fun _ v5 _ => n - (intOf v5).toNat)
  case atStart =>
    refine ⟨1, _, _, by omega, h1, rfl, rfl, ?_, ?_⟩
    · have hl := World.ownsRow_lit (e := 69) (base := w1.heap.size + 1) (size := 2) (w1.alloc (.cells #[.int .i64 p, .int .i64 bk] 69)) #[.int .i64 p, .int .i64 bk] 1 (by simp) (by unfold maxLen; omega) rfl
      have hl2 : ((w1.alloc (.cells #[.int .i64 p, .int .i64 bk] 69)).alloc (.cells #[.int .i64 p, .int .i64 bk] 69)).ownsRow (w1.heap.size + 1) 69 2 (.slice (some ⟨w1.heap.size + 1, 0, none⟩) 1 1) 1 [.int .i64 p, .int .i64 bk] := by simpa using hl
      exact hl2
    · exact (Box.new HB1.out _).below ((Below.refl _ _).alloc (Nat.le_refl _) _)
  case round =>
    obtain ⟨k, A4, c4, hk1, hk2, rfl, rfl, hown, hbx⟩ := hrel
    by_cases hlt : k < n
    · obtain ⟨b4, hI4⟩ := OT.it hown
      obtain ⟨L, hL⟩ : ∃ L, bkL p s bk k = L := ⟨_, rfl⟩
      have hLl : L.length = k := by rw [← hL, bkL_len]
      have hLv : ∀ y ∈ L, numB p y = true := by rw [← hL]; exact bkL_valid HP.out HBK.out k
      have HST := Lib.hid (show bkL p s bk (k + 1) = L ++ [(p - conv s L k % p * bk % p) % p] by rw [← hL]; exact bk_step HP.out hk1)
      rw [hL] at hown hI4
      obtain ⟨u, hu⟩ : ∃ u, conv s L k % p = u := ⟨_, rfl⟩
      have huv : numB p u = true := by rw [← hu]; exact numB_emod HP.out _
      obtain ⟨q, hq⟩ : ∃ q, u * bk % p = q := ⟨_, rfl⟩
      have hqv : numB p q = true := by rw [← hq]; exact numB_emod HP.out _
      obtain ⟨v, hv⟩ : ∃ v, (p - q) % p = v := ⟨_, rfl⟩
      rw [hu, hq, hv] at HST
      have HU := Lib.hid hu
      have HQ := Lib.hid hq
      have HVV := Lib.hid hv
      have HUV := Lib.hid (And.intro huv hqv)
      have HIs := Lib.hid (H.out.below hbx.bel).drew
      have HI4 := Lib.hid hI4.drew
      have HLV := Lib.hid hLv
      have HO := Lib.hid hown
      have HX := Lib.hid hbx
      have y1 := hbx.c0
      have y2 := hbx.c1
      have y3 := hbx.hi
      have hbo := hbx.lo
      clear hL hLl hLv hown hI4 hu huv hq hqv hv hbx
      go_upto_block 1 with (fail)
      go_cut [4] (fun v4 wx => ∃ (A5 : Option Addr) (c5 : Nat), v4 = .slice A5 (k + 1) c5 ∧ OT wx (w1.heap.size + 1) A5 (k + 1) c5 p (L ++ [v]) ∧ Box w wx w1.heap.size p bk)
      case first =>
        go_wp2_with (fail)
        go_region_held3 (fun w' => w'.cell? ⟨w1.heap.size, 0, none⟩ = some (.int .i64 p) ∧ w'.cell? ⟨w1.heap.size, 1, none⟩ = some (.int .i64 bk)) (first | assumption | exact ⟨y1, y2⟩ | go_keep) (first
          | (go_at_call 63; refine (productAt_any p _ n c b s A4 k c4 b4 L k _ HIs.out HI4.out HS.out HLV.out hn (by omega) (by omega) h1 (by omega)).mono ?_; rw [HU.out]; rintro e w' ⟨rfl, hB⟩; have HX1 := Lib.hid (Box.below HX.out (below_undrew hB)); have HO1 := Lib.hid (OZ.below HO.out (below_undrew hB)); have zz := And.intro HX1.out.c0 HX1.out.c1; clear hB)
          | (go_at_call 89; refine (res_times p u bk _ HUV.out.1 HBK.out).mono ?_; rw [HQ.out]; rintro e w' ⟨rfl, hB⟩; have HX2 := Lib.hid (Box.below HX1.out hB); have HO2 := Lib.hid (OZ.below HO1.out hB); have zz2 := And.intro HX2.out.c0 HX2.out.c1; clear hB)
          | (go_at_call 87; refine (res_negative p q _ HUV.out.2).mono ?_; rw [HVV.out]; rintro e w' ⟨rfl, hB⟩; have HX3 := Lib.hid (Box.below HX2.out hB); have HO3 := Lib.hid (OZ.below HO2.out hB); have zz3 := And.intro HX3.out.c0 HX3.out.c1; have hs3 := HX3.out.hi; clear hB)
          | (refine step_app_two rfl (.tmp 19) (.tmp 29) rfl (w1.heap.size + 1) A4 k c4 (wp p L) rfl (World.ownsRow.alloc HO3.out _) ⟨_, 0, none⟩ 1 (p, v) rfl (by simp [Addr.add]) (by simp [Addr.add]) (by omega) (by simp; omega) ?_; intro A5 c5 w5 hO5 hg5; have HX5 := Lib.hid (Box.grown5 (HX3.out.below ((Below.refl _ _).alloc (Nat.le_refl _) _)) hg5 (fun qq hqq => by have := (HO3.out.lt qq hqq).1; omega)); have HO5 := Lib.hid hO5; have zz5 := And.intro HX5.out.c0 HX5.out.c1; clear hO5 hg5))
        go_wp2_with (fail)
        go_meet
        exact ⟨A5, c5, rfl, by unfold OT; rw [show wp p (L ++ [v]) = wp p L ++ [(p, v)] by simp [wp]]; exact HO5.out, HX5.out⟩
      case rest =>
      obtain ⟨A5, c5, rfl, hO5, hX5⟩ := hcut
      rw [← HST.out] at hO5
      have HO5 := Lib.hid hO5
      have HX5 := Lib.hid hX5
      clear hO5 hX5
      go_wp2_with (fail)
      go_roundw
      case rel => exact ⟨k + 1, A5, c5, by omega, by omega, by go_num, rfl, HO5.out, HX5.out⟩
      case measure => simp [intOf]; omega
    · obtain rfl : k = n := by omega
      have HO := Lib.hid (OZ.mono hown (show w.heap.size ≤ w1.heap.size + 1 by omega))
      have HB := Lib.hid hbx.bel
      clear hown hbx
      go_wp2_with (fail)
      go_ret
      rw [HR.out]
      exact ⟨A4, c4, by rw [bkL_len]; rfl, by rw [bkL_len]; exact HO.out, HB.out⟩
end Go.Proofs.YtllakclbgmingaaDoor
