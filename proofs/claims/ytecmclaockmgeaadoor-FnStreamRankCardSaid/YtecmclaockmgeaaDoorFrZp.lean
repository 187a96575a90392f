/-
  The contracts of the model's l2Times and l2Series.
  The contracts of SeriesTimes, of the program and of its model.
  The contract of inverse.
  The contracts of SeriesBack, of the program and of its model.
  The contract of the model's SeriesBack.
  Plain mathematics: the first numbers of the series of a fraction.
  The contracts of beginning, FracTerms of the program.
  The contract of FracTerms of the program.
  The contracts of the model's l4Terms, FracTerms.
-/
import Derived.Test.YtecmclaockmgeaaDoorPAdd
import Derived.Test.YtecmclaockmgeaaDoorTi
import Derived.Test.YtecmclaockmgeaaDoorPolN
import Derived.Deep.RegionHeld3
import Derived.Test.YtecmclaockmgeaaDoorLeM
import Derived.Laws.CopyOwn
import Derived.Test.YtecmclaockmgeaaDoorFrW
namespace Go.Proofs.YtecmclaockmgeaaDoor
open Go.RowKit
end Go.Proofs.YtecmclaockmgeaaDoor
namespace Go.Proofs.YtecmclaockmgeaaDoor
open Go.RowKit
def serT (p : Int) (s t : List Int) : List Int := if serB p s = true ∧ serB p t = true then serL p s t else []
theorem serL_len (p : Int) (s t : List Int) : (serL p s t).length = min s.length t.length := convR_len _ _ _ _
theorem serT_bd (p : Int) (s t : List Int) : (serT p s t).length ≤ 1048576 := by
  unfold serT
  split
  · rename_i h
    have := (serB_true h.1).2.1
    rw [serL_len]; omega
  · simp
set_option maxHeartbeats 1000000 in
theorem implSeriesTimes (p : Int) (A : Option Addr) (n c b o : Nat) (f : List Int) (A' : Option Addr) (n' c' b' o' : Nat) (g : List Int) (w : World) (h : IA w A n b o f) (h' : IA w A' n' b' o' g) :
    Calls Tryd.prog 40 #[.int .i64 p, .slice A n c, .slice A' n' c'] w (MadeI (serT p f g).length (serT p f g) w) := by
  have hl := h.len
  have hl' := h'.len
  have H := Lib.hid h
  have H' := Lib.hid h'
  clear h h'
  rcases hv : serB p f
  · have HV := Lib.hid hv
    have HR := Lib.hid (show serT p f g = [] by unfold serT; rw [if_neg (by simp [hv])])
    clear hv
    go_enter Tryd.func40, Tryd.ntmps40
    go_wp2_with (fail)
    refine (implSeriesValid p A n c b o f _ H.out).mono ?_
    rintro e w1 ⟨rfl, rfl⟩
    rw [HV.out]
    go_wp2_with (fail)
    go_ret
    rw [HR.out]; exact ⟨none, 0, rfl, World.ownsRow_nil _ _ _ _, Below.refl _ _⟩
  rcases hv' : serB p g
  · have HV := Lib.hid hv
    have HV' := Lib.hid hv'
    have HR := Lib.hid (show serT p f g = [] by unfold serT; rw [if_neg (by simp [hv'])])
    clear hv hv'
    go_enter Tryd.func40, Tryd.ntmps40
    go_wp2_with (fail)
    refine (implSeriesValid p A n c b o f _ H.out).mono ?_
    rintro e w1 ⟨rfl, rfl⟩
    rw [HV.out]
    go_wp2_with (fail)
    refine (implSeriesValid p A' n' c' b' o' g _ H'.out).mono ?_
    rintro e w2 ⟨rfl, rfl⟩
    rw [HV'.out]
    go_wp2_with (fail)
    go_ret
    rw [HR.out]; exact ⟨none, 0, rfl, World.ownsRow_nil _ _ _ _, Below.refl _ _⟩
  · have HV := Lib.hid hv
    have HV' := Lib.hid hv'
    have HR := Lib.hid (show serT p f g = serL p f g by unfold serT; rw [if_pos ⟨hv, hv'⟩])
    obtain ⟨hp, hfl, hfv⟩ := serB_true hv
    obtain ⟨_, hgl, hgv⟩ := serB_true hv'
    have HP := Lib.hid hp
    have HFV := Lib.hid hfv
    have HGV := Lib.hid hgv
    clear hv hv' hp hfv hgv
    obtain ⟨N, hN⟩ : ∃ N, min n n' = N := ⟨_, rfl⟩
    have HS := Lib.hid (show serL p f g = convR p f g N by unfold serL; rw [hl, hl', hN])
    have hNb : N ≤ 24 := by omega
    have hN1 : 0 < N → 0 < n ∧ 0 < n' ∧ N + 1 ≤ n + n' := by omega
    have HN1 := Lib.hid hN1
    have hcs : (n' < n ∧ N = n') ∨ (¬ n' < n ∧ N = n) := by omega
    clear hN hN1
    rcases hcs with ⟨h1, h2⟩ | ⟨h1, h2⟩
    · obtain rfl : n' = N := h2.symm
      go_enter Tryd.func40, Tryd.ntmps40
      go_wp2_with (fail)
      refine (implSeriesValid p A n c b o f _ H.out).mono ?_
      rintro e w1 ⟨rfl, rfl⟩
      rw [HV.out]
      go_wp2_with (fail)
      refine (implSeriesValid p A' n' c' b' o' g _ H'.out).mono ?_
      rintro e w2 ⟨rfl, rfl⟩
      rw [HV'.out]
      go_wp2_with (fail)
      refine (termsOf_any p A n c b o f _ H.out (by omega)).mono ?_
      rintro e w3 ⟨A3, c3, rfl, hO3, hB3⟩
      rw [hl] at hO3 ⊢
      obtain ⟨b3, hI3⟩ := OT.it hO3
      have HI3 := Lib.hid hI3
      clear hO3 hI3
      go_wp2_with (fail)
      refine (termsOf_any p A' n' c' b' o' g _ (H'.out.below hB3) (by omega)).mono ?_
      rintro e w4 ⟨A4, c4, rfl, hO4, hB4⟩
      rw [hl'] at hO4 ⊢
      obtain ⟨b4, hI4⟩ := OT.it hO4
      have HI4 := Lib.hid hI4
      have HI3' := Lib.hid (HI3.out.below hB4)
      have hB4' := below_more hB3 hB4
      clear hO4 hI4 hB3 hB4
      go_wp2_with (fail)
      refine (firstOf_any p A3 n c3 b3 f A4 n' c4 b4 g _ _ HI3'.out HI4.out HFV.out HGV.out (by omega) (by omega) HN1.out (by omega)).mono ?_
      rw [← HS.out]
      rintro e w5 ⟨A5, c5, rfl, hO5, hB5⟩
      obtain ⟨b5, hI5⟩ := OT.it hO5
      have HI5 := Lib.hid hI5
      have hB5' := below_more hB4' hB5
      have hsl := serL_len p f g
      have hsb : (serL p f g).length ≤ 24 := by omega
      obtain ⟨T, hT⟩ : ∃ T, serL p f g = T := ⟨_, rfl⟩
      rw [hT] at HI5 hsb ⊢
      have HT := Lib.hid hT
      clear hO5 hI5 hB4' hB5 hsl hT HS
      go_wp2_with (fail)
      refine (numbersOf_any p A5 _ c5 b5 T _ HI5.out (by omega)).mono ?_
      rintro e w6 ⟨A6, c6, rfl, hO6, hB6⟩
      have HO6 := Lib.hid hO6
      have hB6' := below_more hB5' hB6
      have hB5s := hB5'.size
      clear hO6 hB5' hB6
      go_wp2_with (fail)
      go_ret
      rw [HR.out, HT.out]
      exact ⟨_, _, rfl, owns_mono HO6.out hB5s, hB6'⟩
    · obtain rfl : n = N := h2.symm
      go_enter Tryd.func40, Tryd.ntmps40
      go_wp2_with (fail)
      refine (implSeriesValid p A n c b o f _ H.out).mono ?_
      rintro e w1 ⟨rfl, rfl⟩
      rw [HV.out]
      go_wp2_with (fail)
      refine (implSeriesValid p A' n' c' b' o' g _ H'.out).mono ?_
      rintro e w2 ⟨rfl, rfl⟩
      rw [HV'.out]
      go_wp2_with (fail)
      refine (termsOf_any p A n c b o f _ H.out (by omega)).mono ?_
      rintro e w3 ⟨A3, c3, rfl, hO3, hB3⟩
      rw [hl] at hO3 ⊢
      obtain ⟨b3, hI3⟩ := OT.it hO3
      have HI3 := Lib.hid hI3
      clear hO3 hI3
      go_wp2_with (fail)
      refine (termsOf_any p A' n' c' b' o' g _ (H'.out.below hB3) (by omega)).mono ?_
      rintro e w4 ⟨A4, c4, rfl, hO4, hB4⟩
      rw [hl'] at hO4 ⊢
      obtain ⟨b4, hI4⟩ := OT.it hO4
      have HI4 := Lib.hid hI4
      have HI3' := Lib.hid (HI3.out.below hB4)
      have hB4' := below_more hB3 hB4
      clear hO4 hI4 hB3 hB4
      go_wp2_with (fail)
      refine (firstOf_any p A3 n c3 b3 f A4 n' c4 b4 g _ _ HI3'.out HI4.out HFV.out HGV.out (by omega) (by omega) HN1.out (by omega)).mono ?_
      rw [← HS.out]
      rintro e w5 ⟨A5, c5, rfl, hO5, hB5⟩
      obtain ⟨b5, hI5⟩ := OT.it hO5
      have HI5 := Lib.hid hI5
      have hB5' := below_more hB4' hB5
      have hsl := serL_len p f g
      have hsb : (serL p f g).length ≤ 24 := by omega
      obtain ⟨T, hT⟩ : ∃ T, serL p f g = T := ⟨_, rfl⟩
      rw [hT] at HI5 hsb ⊢
      have HT := Lib.hid hT
      clear hO5 hI5 hB4' hB5 hsl hT HS
      go_wp2_with (fail)
      refine (numbersOf_any p A5 _ c5 b5 T _ HI5.out (by omega)).mono ?_
      rintro e w6 ⟨A6, c6, rfl, hO6, hB6⟩
      have HO6 := Lib.hid hO6
      have hB6' := below_more hB5' hB6
      have hB5s := hB5'.size
      clear hO6 hB5' hB6
      go_wp2_with (fail)
      go_ret
      rw [HR.out, HT.out]
      exact ⟨_, _, rfl, owns_mono HO6.out hB5s, hB6'⟩
end Go.Proofs.YtecmclaockmgeaaDoor
namespace Go.Proofs.YtecmclaockmgeaaDoor
open Go.RowKit
theorem IT.drew {w : World} {A : Option Addr} {n c b : Nat} {p : Int} {xs : List Int} (h : IT w A n c b p xs) : IT w.drew A n c b p xs := ⟨h.len, h.adr, h.capn, h.big, h.cell⟩
theorem below_undrew {B : Nat} {w w' : World} (h : Below B w.drew w') : Below B w w' := ⟨h.os, h.tape, h.output, h.size, h.block⟩
theorem Box.grown5 {w w1 w2 : World} {sb : Nat} {p s : Int} {row : Option Nat} (h : Box w w1 sb p s) (hg : w1.grownBy w2 row) (hne : ∀ q, row = some q → sb < q) : Box w w2 sb p s := by
  have hk : w2.heap[sb]? = w1.heap[sb]? := hg.block sb h.hi (fun e => by have := hne sb e.symm; omega)
  exact ⟨h.lo, Nat.lt_of_lt_of_le h.hi hg.size, (World.cell?_of_block (w := w1) (a := ⟨sb, 0, none⟩) hk).trans h.c0, (World.cell?_of_block (w := w1) (a := ⟨sb, 1, none⟩) hk).trans h.c1, (World.frozen?_of_block (w := w1) (a := ⟨sb, 0, none⟩) hk).trans h.f0, (World.frozen?_of_block (w := w1) (a := ⟨sb, 1, none⟩) hk).trans h.f1,
    h.bel.grown hg h.bel.size (fun q hq => by have := hne q hq; have := h.lo; omega)⟩
theorem step_app_two {ops : Array Oper} {o : Oper} {a : Act} {w : World} {K : Act → World → Prop} {Q : Exit → Act → World → Prop} {E : Prop} (hg : o.guard = none) (s x : Operand)
    (ho : o.op = .call { callee := .builtin .append, args := #[s, x], argTypes := #[67, 67] })
    (B : Nat) (A : Option Addr) (n c : Nat) (zs : List (Int × Int)) (hs : a.eval s = .slice A n c) (hown : OZ w B A n c zs) (ad : Addr) (c1 : Nat) (z : Int × Int) (hx : a.eval x = .slice (some ad) 1 c1)
    (h0 : w.cell? (ad.add 0) = some (.int .i64 z.1)) (h1 : w.cell? (ad.add 1) = some (.int .i64 z.2)) (hn : n ≤ 1000000) (hB : B ≤ w.heap.size)
    (h : ∀ (A' : Option Addr) (c' : Nat) (w' : World), OZ w' B A' (n + 1) c' (zs ++ [z]) → w.grownBy w' (Value.slice A n c).ownBlock → K (a.put o.dst (.slice A' (n + 1) c')) w') :
    if Region.wanted o (yielded ops a.tmps) = true then Oper.wp Tryd.prog o a w K Q else E := by
  have hw : Region.wanted o (yielded ops a.tmps) = true := by simp [Region.wanted, hg]
  rw [if_pos hw]
  obtain ⟨i0, hi, hz0, hz1, hz2⟩ := info_parts infoRes
  refine wp_append_own w s x 67 ho B 71 i0 (.agg #[.int .i64 0, .int .i64 0]) 2 16 Tryd.underlying67 hi hz0 hz1 hz2 rfl (by decide) _ n (two zs) hs hown ad 1 c1 (two [z]) hx rfl ?_ (two_one _) ?_ ?_ hB ?_
  · intro j u hj
    match j, hj with
    | 0, hj => simp [two] at hj; subst hj; exact h0
    | 1, hj => simp [two] at hj; subst hj; exact h1
    | j + 2, hj => simp [two] at hj
  · unfold maxLen; omega
  · omega
  · intro v' w' h2 h3 _
    obtain ⟨A', c', rfl⟩ := owns_shape h2
    exact h A' c' w' (by unfold OZ; simpa [two] using h2) h3
theorem bk_step {p : Int} {s : List Int} {bk : Int} {k : Nat} (hp : primeB p = true) (hk : 1 ≤ k) :
    bkL p s bk (k + 1) = bkL p s bk k ++ [(p - conv s (bkL p s bk k) k % p * bk % p) % p] := by
  have hpb := prime_ge hp
  show bkL p s bk k ++ [_] = _
  congr 2
  rw [if_neg (by omega)]
  have e : conv s (bkL p s bk k) k = sigN k (fun j => co s (j + 1) * co (bkL p s bk k) (k - 1 - j)) := by
    unfold conv
    rw [sigN_shift]
    rw [getD_far (xs := bkL p s bk k) (by rw [bkL_len]; omega), Int.mul_zero, Int.zero_add]
    exact sigN_congr fun j hj => by show co s (j + 1) * co (bkL p s bk k) (k - (j + 1)) = _; rw [show k - (j + 1) = k - 1 - j by omega]
  rw [e]
  generalize sigN k (fun j => co s (j + 1) * co (bkL p s bk k) (k - 1 - j)) = S
  apply mod_of_near
  have h1 := near_mod p (-S)
  have h2 := near_mod p S
  have h3 := near_mod p (S % p * bk)
  generalize -S % p = u at h1 ⊢
  generalize S % p = v at h2 h3 ⊢
  generalize v * bk % p = q at h3 ⊢
  have h4 := Int.dvd_add (Int.dvd_add (Int.dvd_add (dvd_mulR h1 bk) (dvd_mulR h2 bk)) h3) (Int.dvd_neg.2 (Int.dvd_refl p))
  rwa [show (u - -S) * bk + (v - S) * bk + (q - v * bk) + -p = u * bk - (p - q) by grind] at h4
set_option maxRecDepth 100000 in
set_option maxHeartbeats 4000000 in
theorem inverse_any (p : Int) (A : Option Addr) (n c b : Nat) (s : List Int) (w : World) (h : IT w A n c b p s) (hpr : primeB p = true) (hs : ∀ x ∈ s, numB p x = true) (hn : n ≤ 100000) (h1 : 1 ≤ n) (h0 : co s 0 ≠ 0) :
    Calls Tryd.prog 74 #[.slice A n c] w (MadeT p (backL p s) w) := by
  have HL := Lib.hid h.len
  have H := Lib.hid h
  have hcap := h.capn
  have hbig := h.big
  obtain rfl : A = some ⟨b, 0, none⟩ := by rcases h.adr with ⟨_, h1, _⟩ | h1 <;> first | omega | exact h1
  obtain ⟨x, hx, hxp, hxc⟩ := h.cell 0 (by omega)
  simp only [Nat.zero_mul, Nat.zero_add] at hxp hxc
  have hxv := hs x (List.mem_of_getElem? hx)
  have hx0 : x ≠ 0 := by have : co s 0 = x := getD_at hx; rwa [this] at h0
  have HV := Lib.hid (And.intro hxv hx0)
  have HS := Lib.hid hs
  have HP := Lib.hid hpr
  clear h hs hpr h0 hxv hx0
  go_enter Tryd.func74, Tryd.ntmps74
  go_wp2_with (fail)
  refine (res_back p x _ HV.out.1 HV.out.2).mono ?_
  rintro e w1 ⟨rfl, hB1⟩
  obtain ⟨bk, hbk⟩ : ∃ bk, invM p x = bk := ⟨_, rfl⟩
  rw [hbk]
  have hbkv : numB p bk = true := by rw [← hbk]; exact numB_mk HP.out (inv_bd HP.out).1 (inv_bd HP.out).2
  have HBK := Lib.hid hbkv
  have HR := Lib.hid (show backL p s = bkL p s bk n by unfold backL; rw [show co s 0 = x from getD_at hx, hbk, HL.out])
  have HB1 := Lib.hid hB1
  have hs1 := hB1.size
  clear hbk hbkv hx hB1
  go_wp2_with (fail)
  go_loopw [4, 5] (fun v4 v5 wr => ∃ (k : Nat) (A4 : Option Addr) (c4 : Nat), 1 ≤ k ∧ k ≤ n ∧ v5 = .int .i64 (k : Int) ∧ v4 = .slice A4 k c4 ∧ OT wr (w1.heap.size + 1) A4 k c4 p (bkL p s bk k) ∧ Box w wr w1.heap.size p bk) (fun _ v5 _ => n - (intOf v5).toNat)
  case atStart =>
    refine ⟨1, _, _, by omega, h1, rfl, rfl, ?_, ?_⟩
    · have hl := World.ownsRow_lit (e := 71) (base := w1.heap.size + 1) (size := 2) (w1.alloc (.cells #[.int .i64 p, .int .i64 bk] 71)) #[.int .i64 p, .int .i64 bk] 1 (by simp) (by unfold maxLen; omega) rfl
      have hl2 : ((w1.alloc (.cells #[.int .i64 p, .int .i64 bk] 71)).alloc (.cells #[.int .i64 p, .int .i64 bk] 71)).ownsRow (w1.heap.size + 1) 71 2 (.slice (some ⟨w1.heap.size + 1, 0, none⟩) 1 1) 1 [.int .i64 p, .int .i64 bk] := by simpa using hl
      exact hl2
    · exact (Box.new HB1.out _).below ((Below.refl _ _).alloc (Nat.le_refl _) _)
  case round =>
    obtain ⟨k, A4, c4, hk1, hk2, rfl, rfl, hown, hbx⟩ := hrel
    by_cases hlt : k < n
    · obtain ⟨b4, hI4⟩ := OT.it hown
      obtain ⟨L, hL⟩ : ∃ L, bkL p s bk k = L := ⟨_, rfl⟩
      have hLl : L.length = k := by rw [← hL, bkL_len]
      have hLv : ∀ y ∈ L, numB p y = true := by rw [← hL]; exact bkL_valid HP.out HBK.out k
      have HST := Lib.hid (show bkL p s bk (k + 1) = L ++ [(p - conv s L k % p * bk % p) % p] by rw [← hL]; exact bk_step HP.out hk1)
      rw [hL] at hown hI4
      obtain ⟨u, hu⟩ : ∃ u, conv s L k % p = u := ⟨_, rfl⟩
      have huv : numB p u = true := by rw [← hu]; exact numB_emod HP.out _
      obtain ⟨q, hq⟩ : ∃ q, u * bk % p = q := ⟨_, rfl⟩
      have hqv : numB p q = true := by rw [← hq]; exact numB_emod HP.out _
      obtain ⟨v, hv⟩ : ∃ v, (p - q) % p = v := ⟨_, rfl⟩
      rw [hu, hq, hv] at HST
      have HU := Lib.hid hu
      have HQ := Lib.hid hq
      have HVV := Lib.hid hv
      have HUV := Lib.hid (And.intro huv hqv)
      have HIs := Lib.hid (H.out.below hbx.bel).drew
      have HI4 := Lib.hid hI4.drew
      have HLV := Lib.hid hLv
      have HO := Lib.hid hown
      have HX := Lib.hid hbx
      have y1 := hbx.c0
      have y2 := hbx.c1
      have y3 := hbx.hi
      have hbo := hbx.lo
      clear hL hLl hLv hown hI4 hu huv hq hqv hv hbx
      go_upto_block 1 with (fail)
      go_cut [4] (fun v4 wx => ∃ (A5 : Option Addr) (c5 : Nat), v4 = .slice A5 (k + 1) c5 ∧ OT wx (w1.heap.size + 1) A5 (k + 1) c5 p (L ++ [v]) ∧ Box w wx w1.heap.size p bk)
      case first =>
        go_wp2_with (fail)
        go_region_held3 (fun w' => w'.cell? ⟨w1.heap.size, 0, none⟩ = some (.int .i64 p) ∧ w'.cell? ⟨w1.heap.size, 1, none⟩ = some (.int .i64 bk)) (first | assumption | exact ⟨y1, y2⟩ | go_keep) (first
          | (go_at_call 75; refine (productAt_any p _ n c b s A4 k c4 b4 L k _ HIs.out HI4.out HS.out HLV.out hn (by omega) (by omega) h1 (by omega)).mono ?_; rw [HU.out]; rintro e w' ⟨rfl, hB⟩; have HX1 := Lib.hid (Box.below HX.out (below_undrew hB)); have HO1 := Lib.hid (OZ.below HO.out (below_undrew hB)); have zz := And.intro HX1.out.c0 HX1.out.c1; clear hB)
          | (go_at_call 102; refine (res_times p u bk _ HUV.out.1 HBK.out).mono ?_; rw [HQ.out]; rintro e w' ⟨rfl, hB⟩; have HX2 := Lib.hid (Box.below HX1.out hB); have HO2 := Lib.hid (OZ.below HO1.out hB); have zz2 := And.intro HX2.out.c0 HX2.out.c1; clear hB)
          | (go_at_call 100; refine (res_negative p q _ HUV.out.2).mono ?_; rw [HVV.out]; rintro e w' ⟨rfl, hB⟩; have HX3 := Lib.hid (Box.below HX2.out hB); have HO3 := Lib.hid (OZ.below HO2.out hB); have zz3 := And.intro HX3.out.c0 HX3.out.c1; have hs3 := HX3.out.hi; clear hB)
          | (refine step_app_two rfl (.tmp 19) (.tmp 29) rfl (w1.heap.size + 1) A4 k c4 (wp p L) rfl (World.ownsRow.alloc HO3.out _) ⟨_, 0, none⟩ 1 (p, v) rfl (by simp [Addr.add]) (by simp [Addr.add]) (by omega) (by simp; omega) ?_; intro A5 c5 w5 hO5 hg5; have HX5 := Lib.hid (Box.grown5 (HX3.out.below ((Below.refl _ _).alloc (Nat.le_refl _) _)) hg5 (fun qq hqq => by have := (HO3.out.lt qq hqq).1; omega)); have HO5 := Lib.hid hO5; have zz5 := And.intro HX5.out.c0 HX5.out.c1; clear hO5 hg5))
        go_wp2_with (fail)
        go_meet
        exact ⟨A5, c5, rfl, by unfold OT; rw [show wp p (L ++ [v]) = wp p L ++ [(p, v)] by simp [wp]]; exact HO5.out, HX5.out⟩
      case rest =>
      obtain ⟨A5, c5, rfl, hO5, hX5⟩ := hcut
      rw [← HST.out] at hO5
      have HO5 := Lib.hid hO5
      have HX5 := Lib.hid hX5
      clear hO5 hX5
      go_wp2_with (fail)
      go_roundw
      case rel => exact ⟨k + 1, A5, c5, by omega, by omega, by go_num, rfl, HO5.out, HX5.out⟩
      case measure => simp [intOf]; omega
    · obtain rfl : k = n := by omega
      have HO := Lib.hid (OZ.mono hown (show w.heap.size ≤ w1.heap.size + 1 by omega))
      have HB := Lib.hid hbx.bel
      clear hown hbx
      go_wp2_with (fail)
      go_ret
      rw [HR.out]
      exact ⟨A4, c4, by rw [bkL_len]; rfl, by rw [bkL_len]; exact HO.out, HB.out⟩
end Go.Proofs.YtecmclaockmgeaaDoor
namespace Go.Proofs.YtecmclaockmgeaaDoor
open Go.RowKit
def serBk (p : Int) (s : List Int) : List Int := if serB p s = true ∧ s.length ≠ 0 ∧ co s 0 ≠ 0 then backL p s else []
theorem backL_len (p : Int) (s : List Int) : (backL p s).length = s.length := bkL_len _ _ _ _
theorem serBk_bd (p : Int) (s : List Int) : (serBk p s).length ≤ 1048576 := by
  unfold serBk
  split
  · rename_i h
    have := (serB_true h.1).2.1
    rw [backL_len]; omega
  · simp
set_option maxHeartbeats 1000000 in
theorem implSeriesBack (p : Int) (A : Option Addr) (n c b o : Nat) (s : List Int) (w : World) (h : IA w A n b o s) :
    Calls Tryd.prog 63 #[.int .i64 p, .slice A n c] w (MadeI (serBk p s).length (serBk p s) w) := by
  have hl := h.len
  have H := Lib.hid h
  rcases hv : serB p s
  · have HV := Lib.hid hv
    have HR := Lib.hid (show serBk p s = [] by unfold serBk; rw [if_neg (by simp [hv])])
    clear hv h
    go_enter Tryd.func63, Tryd.ntmps63
    go_wp2_with (fail)
    refine (implSeriesValid p A n c b o s _ H.out).mono ?_
    rintro e w1 ⟨rfl, rfl⟩
    rw [HV.out]
    go_wp2_with (fail)
    go_ret
    rw [HR.out]; exact ⟨none, 0, rfl, World.ownsRow_nil _ _ _ _, Below.refl _ _⟩
  by_cases hn : n = 0
  · subst hn
    have HV := Lib.hid hv
    have HR := Lib.hid (show serBk p s = [] by unfold serBk; rw [if_neg (by omega)])
    clear hv h
    go_enter Tryd.func63, Tryd.ntmps63
    go_wp2_with (fail)
    refine (implSeriesValid p A 0 c b o s _ H.out).mono ?_
    rintro e w1 ⟨rfl, rfl⟩
    rw [HV.out]
    go_wp2_with (fail)
    go_ret
    rw [HR.out]; exact ⟨none, 0, rfl, World.ownsRow_nil _ _ _ _, Below.refl _ _⟩
  obtain rfl := h.adr (by omega)
  obtain ⟨x, hx, hxc⟩ := h.cell 0 (by omega)
  have hxc' : w.cell? ⟨b, o, none⟩ = some (.int .i64 x) := hxc
  have hc0 : co s 0 = x := getD_at hx
  have hnz : ((n : Int) == 0) = false := by simpa using hn
  have hnp : (0 : Int) < (n : Int) := by omega
  obtain ⟨hp, hfl, hfv⟩ := serB_true hv
  by_cases hx0 : x = 0
  · subst hx0
    have HV := Lib.hid hv
    have HR := Lib.hid (show serBk p s = [] by unfold serBk; rw [if_neg (by simp [hc0])])
    clear hv h hx hc0 hp hfv
    go_enter Tryd.func63, Tryd.ntmps63
    go_wp2_with (fail)
    refine (implSeriesValid p _ n c b o s _ H.out).mono ?_
    rintro e w1 ⟨rfl, rfl⟩
    rw [HV.out]
    go_wp2_with (fail)
    go_ret
    rw [HR.out]; exact ⟨none, 0, rfl, World.ownsRow_nil _ _ _ _, Below.refl _ _⟩
  · have hxz : (x == 0) = false := by simpa using hx0
    have HV := Lib.hid hv
    have HR := Lib.hid (show serBk p s = backL p s by unfold serBk; rw [if_pos ⟨hv, by omega, by rw [hc0]; exact hx0⟩])
    have HP := Lib.hid hp
    have HFV := Lib.hid hfv
    have HC0 := Lib.hid (show co s 0 ≠ 0 by rw [hc0]; exact hx0)
    have hbl := backL_len p s
    clear hv h hx hc0 hp hfv
    go_enter Tryd.func63, Tryd.ntmps63
    go_wp2_with (fail)
    refine (implSeriesValid p _ n c b o s _ H.out).mono ?_
    rintro e w1 ⟨rfl, rfl⟩
    rw [HV.out]
    go_wp2_with (fail)
    refine (termsOf_any p _ n c b o s _ H.out (by omega)).mono ?_
    rintro e w3 ⟨A3, c3, rfl, hO3, hB3⟩
    rw [hl] at hO3 ⊢
    obtain ⟨b3, hI3⟩ := OT.it hO3
    have HI3 := Lib.hid hI3
    clear hO3 hI3
    go_wp2_with (fail)
    refine (inverse_any p A3 n c3 b3 s _ HI3.out HP.out HFV.out (by omega) (by omega) HC0.out).mono ?_
    rintro e w5 ⟨A5, c5, rfl, hO5, hB5⟩
    obtain ⟨T, hT⟩ : ∃ T, backL p s = T := ⟨_, rfl⟩
    rw [hT] at hbl hO5 ⊢
    have HT := Lib.hid hT
    have htb : T.length ≤ 24 := by omega
    obtain ⟨b5, hI5⟩ := OT.it hO5
    have HI5 := Lib.hid hI5
    have hB5' := below_more hB3 hB5
    clear hO5 hI5 hB3 hB5 hT hbl
    go_wp2_with (fail)
    refine (numbersOf_any p A5 _ c5 b5 T _ HI5.out (by omega)).mono ?_
    rintro e w6 ⟨A6, c6, rfl, hO6, hB6⟩
    have HO6 := Lib.hid hO6
    have hB6' := below_more hB5' hB6
    have hB5s := hB5'.size
    clear hO6 hB5' hB6
    go_wp2_with (fail)
    go_ret
    rw [HR.out, HT.out]
    exact ⟨_, _, rfl, owns_mono HO6.out hB5s, hB6'⟩
end Go.Proofs.YtecmclaockmgeaaDoor
namespace Go.Proofs.YtecmclaockmgeaaDoor
open Go.RowKit
theorem neg_near {p : Int} (S bk : Int) : (-(S % p) * bk) % p = (-S) % p * bk % p := by
  apply mod_of_near
  have h1 := near_mod p S
  have h2 := near_mod p (-S)
  generalize S % p = v at h1 ⊢
  generalize -S % p = u at h2 ⊢
  have h3 := Int.dvd_add (Int.dvd_neg.2 (dvd_mulR h1 bk)) (Int.dvd_neg.2 (dvd_mulR h2 bk))
  rwa [show -((v - S) * bk) + -((u - -S) * bk) = -v * bk - u * bk by grind] at h3
end Go.Proofs.YtecmclaockmgeaaDoor
namespace Go.Proofs.YtecmclaockmgeaaDoor
def begL (U : List Int) (m : Nat) : List Int := (List.range m).map (co U)
theorem begL_len (U : List Int) (m : Nat) : (begL U m).length = m := by simp [begL]
theorem begL_get (U : List Int) {m k : Nat} (h : k < m) : (begL U m)[k]? = some (co U k) := by unfold begL; rw [List.getElem?_map, List.getElem?_range h]; rfl
theorem co_begL (U : List Int) {m k : Nat} (h : k < m) : co (begL U m) k = co U k := getD_at (begL_get U h)
theorem begL_num {p : Int} (hp : primeB p = true) {U : List Int} (hU : ∀ x ∈ U, numB p x = true) (m : Nat) : ∀ x ∈ begL U m, numB p x = true := by
  intro x hx
  obtain ⟨k, _, rfl⟩ := List.mem_map.1 hx
  unfold co
  rw [List.getD_eq_getElem?_getD]
  cases hk : U[k]? with
  | none => exact numB_zero hp
  | some y => exact hU y (List.mem_of_getElem? hk)
theorem begL_ser {p : Int} (hp : primeB p = true) {U : List Int} (hU : ∀ x ∈ U, numB p x = true) {m : Nat} (hm : m ≤ 24) : serB p (begL U m) = true := serB_mk hp (by rw [begL_len]; exact hm) (begL_num hp hU m)
def frT (p : Int) (U L : List Int) (m : Nat) : List Int := convR p U (backL p (begL L m)) m
theorem frT_len (p : Int) (U L : List Int) (m : Nat) : (frT p U L m).length = m := convR_len _ _ _ _
theorem frT_back {p : Int} (hp : primeB p = true) {L : List Int} (hL : ∀ x ∈ L, numB p x = true) (h0 : co L 0 ≠ 0) {m : Nat} (hm : m ≤ 24) (h1 : 1 ≤ m) : serBk p (begL L m) = backL p (begL L m) ∧ serB p (backL p (begL L m)) = true ∧ (backL p (begL L m)).length = m := by
  have hs := begL_ser hp hL hm
  have h00 : co (begL L m) 0 ≠ 0 := by rw [co_begL L (by omega)]; exact h0
  obtain ⟨b1, b2, _, _⟩ := back_law hs (by rw [begL_len]; exact h1) h00
  rw [begL_len] at b2
  exact ⟨by unfold serBk; rw [if_pos ⟨hs, by rw [begL_len]; omega, h00⟩], b1, b2⟩
theorem frT_eq {p : Int} (hp : primeB p = true) {U L : List Int} (hU : ∀ x ∈ U, numB p x = true) (hL : ∀ x ∈ L, numB p x = true) (h0 : co L 0 ≠ 0) {m : Nat} (hm : m ≤ 24) : serT p (begL U m) (serBk p (begL L m)) = frT p U L m := by
  by_cases h1 : 1 ≤ m
  · obtain ⟨e, b1, b2⟩ := frT_back hp hL h0 hm h1
    rw [e]
    unfold serT
    rw [if_pos ⟨begL_ser hp hU hm, b1⟩]
    unfold serL frT
    rw [begL_len, b2, Nat.min_self]
    unfold convR
    refine List.map_congr_left fun k hk => ?_
    have hk' := List.mem_range.1 hk
    have : conv (begL U m) (backL p (begL L m)) k = conv U (backL p (begL L m)) k := sigN_congr fun j hj => by
      show co (begL U m) j * _ = co U j * _
      rw [co_begL U (by omega)]
    rw [this]
  · obtain rfl : m = 0 := by omega
    have : frT p U L 0 = [] := rfl
    rw [this]
    refine List.eq_nil_of_length_eq_zero ?_
    unfold serT
    split
    · rw [serL_len, begL_len, Nat.zero_min]
    · rfl
/-- the first numbers, of whatever arguments -/
def fracT (p : Int) (U L : List Int) (many : Int) : List Int := if fracB p U L = true ∧ 0 ≤ many ∧ many ≤ 24 then frT p U L many.toNat else []
theorem fracT_bd (p : Int) (U L : List Int) (many : Int) : (fracT p U L many).length ≤ 1048576 := by
  unfold fracT
  split
  · rename_i h; rw [frT_len]; omega
  · simp
theorem fracT_yes {p : Int} {U L : List Int} {m : Nat} (h : fracB p U L = true) (hm : m ≤ 24) : fracT p U L (m : Int) = frT p U L m := by unfold fracT; rw [if_pos ⟨h, by omega, by omega⟩]; rfl
end Go.Proofs.YtecmclaockmgeaaDoor
namespace Go.Proofs.YtecmclaockmgeaaDoor
open Go.RowKit
theorem begL_eq (U : List Int) (m : Nat) : begL U m = U.take m ++ List.replicate (m - U.length) 0 := by
  refine list_of_co (by rw [begL_len, List.length_append, List.length_take, List.length_replicate]; omega) (fun k hk => ?_)
  rw [begL_len] at hk
  rw [co_begL U hk, co_append, List.length_take]
  by_cases h : k < min m U.length
  · rw [if_pos h, co_take (by omega)]
  · rw [if_neg h, co_far (f := U) (by omega)]
    unfold co
    rw [List.getD_eq_getElem?_getD, List.getElem?_replicate]
    split <;> rfl
theorem oi_heap {w : World} {g B n : Nat} {xs : List Int} (hb : B ≤ g) (hg : w.heap[g]? = some (.cells (ints xs).toArray 3 (0, 0))) (hl : xs.length = n) (hn : n ≤ 1000000) : OI w B (some ⟨g, 0, none⟩) n n xs := by
  refine ⟨by rw [ints_len, hl]; omega, .inr ⟨g, n, _, rfl, hb, hg, Nat.le_refl _, by unfold maxLen; omega, ?_, ?_⟩⟩
  · simp [ints_len, hl]
  · simp [ints_len, hl, List.take_of_length_le]
set_option maxRecDepth 100000 in
set_option maxHeartbeats 1000000 in
theorem beginning_any (A : Option Addr) (n c b o : Nat) (U : List Int) (m : Nat) (w : World) (h : IA w A n b o U) (hm : m ≤ 1000) :
    Calls Tryd.prog 64 #[.slice A n c, .int .i64 m] w (MadeI (begL U m).length (begL U m) w) := by
  have hl := h.len
  have hbig := h.big
  have hmk := run_make_row' (P := Tryd.prog) 23 3 (.int .i64 0) 8 Tryd.underlying23 infoInt rfl .i64 .i64 m (by omega) (by omega)
  have H := Lib.hid h
  clear h
  have hmc : (madeCells #[.int .i64 0] m) = (List.replicate m (Value.int .i64 0)).toArray := by rw [← madeCells_one (.int .i64 0) m]
  have hg0 : (w.alloc (.cells (madeCells #[.int .i64 0] m) 3)).heap[w.heap.size]? = some (.cells (List.replicate m (Value.int .i64 0)).toArray 3 (0, 0)) := by rw [hmc]; exact Array.getElem?_push_size
  have HG0 := Lib.hid hg0
  obtain ⟨cs, hcs⟩ : ∃ cs, ints (U.take m) = cs := ⟨_, rfl⟩
  have hcl : cs.length = Nat.min n m := by rw [← hcs, ints_len, List.length_take, hl]; exact Nat.min_comm _ _
  have HCL := Lib.hid hcl
  have HC := Lib.hid hcs
  have HL := Lib.hid hl
  have HB0 := Lib.hid (below_new w (.cells (madeCells #[.int .i64 0] m) 3))
  have hpos : 0 < cs.length → ((some ⟨w.heap.size, 0, none⟩ : Option Addr) = some ⟨w.heap.size, 0, none⟩) ∧ ∃ ad, A = some ad ∧ ∀ j v, cs[j]? = some v → (w.alloc (.cells (madeCells #[.int .i64 0] m) 3)).cell? (ad.add j) = some v := fun h => by
    have hn : 0 < n := by rw [hcl] at h; exact Nat.lt_of_lt_of_le h (Nat.min_le_left _ _)
    have hI := H.out.below HB0.out
    obtain rfl := hI.adr hn
    refine ⟨rfl, _, rfl, fun j v hv => hI.src j v ?_⟩
    rw [← hcs] at hv
    unfold ints at hv ⊢
    rw [List.getElem?_map, List.getElem?_take] at hv
    rw [List.getElem?_map]
    split at hv
    · exact hv
    · cases hv
  have HP := Lib.hid hpos
  clear hg0 hmc hcl hcs hl hpos
  go_enter Tryd.func64, Tryd.ntmps64
  go_wp2_with (with_reducible refine wpList_copy_splice rfl (.tmp 8) (.tmp 9) 23 23 rfl 3 Tryd.underlying23 infoSize _ A m m n c rfl rfl w.heap.size 0 (List.replicate m (.int .i64 0)) 3 HG0.out cs HCL.out HP.out (by rw [HCL.out, List.length_replicate]; exact (Nat.zero_add _).symm ▸ Nat.min_le_right _ _) (by rw [← HC.out]; exact ints_one _) w.heap.size w HB0.out (Nat.le_refl _) ?_)
  intro w2 hg2 hb2
  have HB2 := Lib.hid hb2
  clear hb2
  go_wp2_with (fail)
  go_ret
  have he : splice (List.replicate m (Value.int .i64 0)) 0 cs = ints (begL U m) := by
    unfold splice
    rw [← HC.out, begL_eq]
    simp only [List.take_zero, List.nil_append, Nat.zero_add, ints, List.map_append, List.map_replicate, List.length_map, List.length_take]
    rw [List.drop_replicate]
    congr 2
    omega
  have h2 := hg2.out
  rw [he] at h2
  exact ⟨_, _, by rw [begL_len]; rfl, by rw [begL_len]; exact oi_heap (Nat.le_refl _) h2 (begL_len _ _) (by omega), HB2.out⟩
end Go.Proofs.YtecmclaockmgeaaDoor
namespace Go.Proofs.YtecmclaockmgeaaDoor
open Go.RowKit
set_option maxRecDepth 100000 in
set_option maxHeartbeats 2000000 in
theorem implFracTerms (v : Value) (p : Int) (U L : List Int) (x : Int) (w : World) (h : RV w v p U L) (ge : Addr) (hge : GE w ge) :
    Calls Tryd.prog 39 #[v, .int .i64 x] w (MadeI (fracT p U L x).length (fracT p U L x) w) := by
  obtain ⟨A, n, c, b, o, A', n', c', b', o', rfl, g1, g2⟩ := h
  have hB0 : Below w.heap.size w (w.alloc (.cells #[.int .i64 p, .slice A n c, .slice A' n' c'] 46)) := (Below.refl _ w).alloc (Nat.le_refl _) _
  have hbig := g1.big
  have hbig' := g2.big
  have HV := Lib.hid (show RV (w.alloc (.cells #[.int .i64 p, .slice A n c, .slice A' n' c'] 46)) (.agg #[.int .i64 p, .slice A n c, .slice A' n' c']) p U L from ⟨_, _, _, _, _, _, _, _, _, _, rfl, g1.below hB0, g2.below hB0⟩)
  have H := Lib.hid (g1.below hB0)
  have H' := Lib.hid (g2.below hB0)
  have HG := Lib.hid (hge.below hB0)
  have HBX := Lib.hid (Bx.new w (.int .i64 p) (.slice A n c) (.slice A' n' c') 46)
  have HB0 := Lib.hid hB0
  clear g1 g2 hB0 hge
  rcases hv : fracB p U L
  · have HV1 := Lib.hid hv
    have HE := Lib.hid (show fracT p U L x = [] by unfold fracT; rw [if_neg (by simp [hv])])
    clear hv
    go_enter Tryd.func39, Tryd.ntmps39
    go_wp2_with (go_at_call 36; refine (implFracValid _ p U L _ HV.out ge HG.out).mono ?_; rintro e w1 ⟨rfl, hB⟩; rw [HV1.out]; have HB1 := Lib.hid (below_more HB0.out hB); clear hB)
    go_ret
    rw [HE.out]; exact ⟨none, 0, rfl, World.ownsRow_nil _ _ _ _, HB1.out⟩
  have HV1 := Lib.hid hv
  by_cases hx : 0 ≤ x ∧ x ≤ 24
  case neg =>
    have HE := Lib.hid (show fracT p U L x = [] by unfold fracT; rw [if_neg (fun h => hx h.2)])
    clear hv
    by_cases h0 : x < 0
    · clear hx
      go_enter Tryd.func39, Tryd.ntmps39
      go_wp2_with (go_at_call 36; refine (implFracValid _ p U L _ HV.out ge HG.out).mono ?_; rintro e w1 ⟨rfl, hB⟩; rw [HV1.out]; have HB1 := Lib.hid (below_more HB0.out hB); clear hB)
      go_ret
      rw [HE.out]; exact ⟨none, 0, rfl, World.ownsRow_nil _ _ _ _, HB1.out⟩
    · have h1 : 24 < x := by omega
      clear hx
      go_enter Tryd.func39, Tryd.ntmps39
      go_wp2_with (go_at_call 36; refine (implFracValid _ p U L _ HV.out ge HG.out).mono ?_; rintro e w1 ⟨rfl, hB⟩; rw [HV1.out]; have HB1 := Lib.hid (below_more HB0.out hB); clear hB)
      go_ret
      rw [HE.out]; exact ⟨none, 0, rfl, World.ownsRow_nil _ _ _ _, HB1.out⟩
  obtain ⟨hx0, hx1⟩ := hx
  obtain ⟨m, rfl⟩ : ∃ m : Nat, x = m := ⟨x.toNat, by omega⟩
  obtain ⟨hu, hl, _, _, hl0, hl1⟩ := fracB_true hv
  have hp := (serB_true (polB_ser hu)).1
  have HE := Lib.hid (show fracT p U L (m : Int) = serT p (begL U m) (serBk p (begL L m)) from by
    rw [fracT_yes hv (by omega)]
    exact (frT_eq hp (serB_true (polB_ser hu)).2.2 (serB_true (polB_ser hl)).2.2 hl1 (by omega)).symm)
  clear hv hu hl hl0 hl1 hp
  rw [HE.out]
  obtain ⟨BK, hBK⟩ : ∃ BK, serBk p (begL L m) = BK := ⟨_, rfl⟩
  obtain ⟨BL, hBL⟩ : ∃ BL, begL L m = BL := ⟨_, rfl⟩
  obtain ⟨BU, hBU⟩ : ∃ BU, begL U m = BU := ⟨_, rfl⟩
  rw [hBK, hBU]
  rw [hBL] at hBK
  have HBK := Lib.hid hBK
  have HBL := Lib.hid hBL
  have HBU := Lib.hid hBU
  clear hBK hBL hBU
  go_enter Tryd.func39, Tryd.ntmps39
  go_wp2_with (go_at_call 36; refine (implFracValid _ p U L _ HV.out ge HG.out).mono ?_; rintro e w1 ⟨rfl, hB⟩; rw [HV1.out]; have HB1 := Lib.hid (below_more HB0.out hB); have H1 := Lib.hid (H.out.below hB); have H1' := Lib.hid (H'.out.below hB); have HBX1 := HBX.out.below hB; have y0 := HBX1.1; have y1 := HBX1.2.1; have y2 := HBX1.2.2; have HBX1 := Lib.hid HBX1; clear hB)
  have H1d := Lib.hid (H1'.out.below (below_new_drew _))
  have HBd := Lib.hid HB1.out.drew
  have H1u := Lib.hid (H1.out.below (below_new_drew _))
  have ZS := HBX1.out
  have Zd := HBX1.out.drew
  unfold Bx at ZS Zd
  go_region_held3 (fun w' => w'.cell? ⟨w.heap.size, 0, none⟩ = some (.int .i64 p) ∧ w'.cell? ⟨w.heap.size, 1, none⟩ = some (.slice A n c) ∧ w'.cell? ⟨w.heap.size, 2, none⟩ = some (.slice A' n' c')) (first | assumption | exact ZB | exact ZA | exact Zd | exact ZS | go_keep)
    (first
      | (go_at_call 64; refine (beginning_any A' n' c' b' o' L m _ H1d.out (by omega)).mono ?_; rw [HBL.out]; rintro e w2 ⟨A5, c5, rfl, hO, hB⟩; have HB2 := Lib.hid (below_more HBd.out hB); have HBX2 := Lib.hid (HBX1.out.drew.below hB); have H2 := Lib.hid (H1u.out.below hB); have ZA := HBX2.out; unfold Bx at ZA; obtain ⟨b5, hI⟩ := hO.ia; have HI5 := Lib.hid hI; clear hO hB hI)
      | (go_at_call 63; refine (implSeriesBack p A5 BL.length c5 b5 0 BL _ HI5.out).mono ?_; rw [HBK.out]; rintro e w3 ⟨A6, c6, rfl, hO, hB⟩; have HB3 := Lib.hid (below_more HB2.out hB); have HBX3 := Lib.hid (HBX2.out.below hB); have H3 := Lib.hid (H2.out.below hB); have ZB := HBX3.out; unfold Bx at ZB; obtain ⟨b6, hI⟩ := hO.ia; have HI6 := Lib.hid hI; clear hO hB hI))
  all_goals
    clear ZS Zd
    obtain ⟨y0, y1, y2⟩ := HBX3.out
    go_wp2_with (fail)
    have H3d := Lib.hid (H3.out.below (below_new_drew _))
    have HBd3 := Lib.hid HB3.out.drew
    have HI6d := Lib.hid (HI6.out.below (below_new_drew _))
    have ZS := HBX3.out
    have Zd := HBX3.out.drew
    unfold Bx at ZS Zd
    go_region_held3 (fun w' => w'.cell? ⟨w.heap.size, 0, none⟩ = some (.int .i64 p) ∧ w'.cell? ⟨w.heap.size, 1, none⟩ = some (.slice A n c) ∧ w'.cell? ⟨w.heap.size, 2, none⟩ = some (.slice A' n' c')) (first | assumption | exact ZD | exact ZC | exact Zd | exact ZS | go_keep)
      (first
        | (go_at_call 64; refine (beginning_any A n c b o U m _ H3d.out (by omega)).mono ?_; rw [HBU.out]; rintro e w4 ⟨A7, c7, rfl, hO, hB⟩; have HB4 := Lib.hid (below_more HBd3.out hB); have HBX4 := Lib.hid (HBX3.out.drew.below hB); have HI7 := Lib.hid (HI6d.out.below hB); have ZC := HBX4.out; unfold Bx at ZC; obtain ⟨b7, hI⟩ := hO.ia; have HI8 := Lib.hid hI; clear hO hB hI)
        | (go_at_call 40; refine (implSeriesTimes p A7 BU.length c7 b7 0 BU A6 BK.length c6 b6 0 BK _ HI8.out HI7.out).mono ?_; rintro e w5 ⟨A8, c8, rfl, hO, hB⟩; have HB5 := Lib.hid (below_more HB4.out hB); have HBX5 := Lib.hid (HBX4.out.below hB); have ZD := HBX5.out; unfold Bx at ZD; have HO8 := Lib.hid hO; clear hO hB))
    all_goals
      go_wp2_with (fail)
      go_ret
      exact ⟨A8, c8, rfl, owns_mono HO8.out HB4.out.size, HB5.out⟩
end Go.Proofs.YtecmclaockmgeaaDoor
namespace Go.Proofs.YtecmclaockmgeaaDoor
open Go.RowKit
theorem begL_stop {L : List Int} {k m : Nat} (hk : k ≤ m) (h : m ≤ k ∨ L.length ≤ k) : (begL L m).take k ++ List.replicate (m - k) 0 = begL L m := by
  refine list_of_co (by rw [begL_len, List.length_append, List.length_take, List.length_replicate, begL_len]; omega) (fun j hj => ?_)
  have hj' : j < m := by rw [List.length_append, List.length_take, List.length_replicate, begL_len] at hj; omega
  rw [co_append, List.length_take, begL_len]
  by_cases e : j < min k m
  · rw [if_pos e, co_take (by omega)]
  · rw [if_neg e, co_begL L hj', co_far (f := L) (by omega)]
    unfold co
    rw [List.getD_eq_getElem?_getD, List.getElem?_replicate]
    split <;> rfl
end Go.Proofs.YtecmclaockmgeaaDoor
