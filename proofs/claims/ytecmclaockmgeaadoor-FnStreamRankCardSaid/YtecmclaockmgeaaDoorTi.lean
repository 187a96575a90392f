/-
  The contracts of productAt, firstOfProduct and times.
  The contracts of firstOfProduct and times.
-/
import Derived.Test.YtecmclaockmgeaaDoorPl
import Derived.Deep.RegionHeld3
import Derived.Deep.DeepCutAuto
import Derived.Deep.CutBlock
namespace Go.Proofs.YtecmclaockmgeaaDoor
open Go.RowKit
/-- what lies below is as it was: as rules for the walk -/
theorem cellsOf {W W' : World} (h : Below W.heap.size W W') : ∀ (b o : Nat), b < W.heap.size → W'.cell? ⟨b, o, none⟩ = W.cell? ⟨b, o, none⟩ := fun b o hb => World.cell?_of_block (w := W) (a := ⟨b, o, none⟩) (h.block b hb)
theorem frozenOf {W W' : World} (h : Below W.heap.size W W') : ∀ (b o : Nat), b < W.heap.size → W'.frozen? ⟨b, o, none⟩ = W.frozen? ⟨b, o, none⟩ := fun b o hb => World.frozen?_of_block (w := W) (a := ⟨b, o, none⟩) (h.block b hb)
/-- a variable of the call's own that holds a number with its prime -/
structure Box (w wx : World) (sb : Nat) (p s : Int) : Prop where
  lo : w.heap.size ≤ sb
  hi : sb < wx.heap.size
  c0 : wx.cell? ⟨sb, 0, none⟩ = some (.int .i64 p)
  c1 : wx.cell? ⟨sb, 1, none⟩ = some (.int .i64 s)
  f0 : wx.frozen? ⟨sb, 0, none⟩ = false
  f1 : wx.frozen? ⟨sb, 1, none⟩ = false
  bel : Below w.heap.size w wx
theorem Box.new {w w1 : World} {p s : Int} (hB : Below w.heap.size w w1) (t : TypeId) : Box w (w1.alloc (.cells #[.int .i64 p, .int .i64 s] t)) w1.heap.size p s :=
  ⟨hB.size, by simp, by simp, by simp, by simp, by simp, hB.alloc hB.size _⟩
theorem Box.new' {w w1 : World} {p s : Int} {B : Nat} (hB : Below w.heap.size w w1) (h : B = w1.heap.size) (t : TypeId) : Box w (w1.alloc (.cells #[.int .i64 p, .int .i64 s] t)) B p s := h ▸ Box.new hB t
theorem Box.put {w w1 : World} {sb : Nat} {p s p' s' : Int} (h : Box w w1 sb p s) : Box w ((w1.setCell ⟨sb, 0, none⟩ (.int .i64 p')).setCell ⟨sb, 1, none⟩ (.int .i64 s')) sb p' s' := by
  have h0 : (w1.setCell ⟨sb, 0, none⟩ (.int .i64 p')).cell? ⟨sb, 0, none⟩ = some (.int .i64 p') := World.cell?_setCell_same _ _ _ h.c0
  have h1 : (w1.setCell ⟨sb, 0, none⟩ (.int .i64 p')).cell? ⟨sb, 1, none⟩ = some (.int .i64 s) := by rw [World.cell?_setCell_other _ _ _ _ (by simp)]; exact h.c1
  exact ⟨h.lo, by simp [World.setCell]; exact h.hi, by rw [World.cell?_setCell_other _ _ _ _ (by simp)]; exact h0, World.cell?_setCell_same _ _ _ h1, by rw [World.frozen?_setCell, World.frozen?_setCell]; exact h.f0, by rw [World.frozen?_setCell, World.frozen?_setCell]; exact h.f1, (h.bel.setCell h.lo _).setCell h.lo _⟩
theorem Box.below {w w1 w2 : World} {sb : Nat} {p s : Int} (h : Box w w1 sb p s) (hB : Below w1.heap.size w1 w2) : Box w w2 sb p s :=
  ⟨h.lo, Nat.lt_of_lt_of_le h.hi hB.size, (keep_of_below hB).cell h.c0 (fun h => h), (keep_of_below hB).cell h.c1 (fun h => h), ((keep_of_below hB).frozen (p := ⟨sb, 0, none⟩) h.hi (fun h => h)).trans h.f0, ((keep_of_below hB).frozen (p := ⟨sb, 1, none⟩) h.hi (fun h => h)).trans h.f1, below_more h.bel hB⟩
theorem Box.other {w w1 : World} {sb tb : Nat} {p s : Int} (h : Box w w1 sb p s) (hne : tb ≠ sb) (hlo : w.heap.size ≤ tb) (u v : Value) : Box w ((w1.setCell ⟨tb, 0, none⟩ u).setCell ⟨tb, 1, none⟩ v) sb p s := by
  exact ⟨h.lo, by simp [World.setCell]; exact h.hi, by rw [World.cell?_setCell_other _ _ _ _ (fun e => hne (congrArg Addr.block e)), World.cell?_setCell_other _ _ _ _ (fun e => hne (congrArg Addr.block e))]; exact h.c0, by rw [World.cell?_setCell_other _ _ _ _ (fun e => hne (congrArg Addr.block e)), World.cell?_setCell_other _ _ _ _ (fun e => hne (congrArg Addr.block e))]; exact h.c1, by rw [World.frozen?_setCell, World.frozen?_setCell]; exact h.f0, by rw [World.frozen?_setCell, World.frozen?_setCell]; exact h.f1, (h.bel.setCell hlo _).setCell hlo _⟩
/-- the sum's variable, and the result's -/
structure Sums (w wx : World) (sb : Nat) (p s : Int) : Prop where
  box : Box w wx sb p s
  res : Box w wx w.heap.size 0 0
  ne : w.heap.size < sb
theorem Sums.below {w w1 w2 : World} {sb : Nat} {p s : Int} (h : Sums w w1 sb p s) (hB : Below w1.heap.size w1 w2) : Sums w w2 sb p s := ⟨h.box.below hB, h.res.below hB, h.ne⟩
theorem Sums.put {w w1 : World} {sb : Nat} {p s p' s' : Int} (h : Sums w w1 sb p s) : Sums w ((w1.setCell ⟨sb, 0, none⟩ (.int .i64 p')).setCell ⟨sb, 1, none⟩ (.int .i64 s')) sb p' s' :=
  ⟨h.box.put, h.res.other (by have := h.ne; omega) h.box.lo _ _, h.ne⟩
theorem Sums.new' {w w1 : World} {p s : Int} {B : Nat} (hR : Box w w1 w.heap.size 0 0) (h : B = w1.heap.size) (t : TypeId) : Sums w (w1.alloc (.cells #[.int .i64 p, .int .i64 s] t)) B p s := by
  subst h
  exact ⟨Box.new hR.bel t, hR.below ((Below.refl _ _).alloc (Nat.le_refl _) _), hR.hi⟩
set_option maxHeartbeats 4000000 in
theorem productAt_any (p : Int) (A : Option Addr) (n c b : Nat) (f : List Int) (A' : Option Addr) (n' c' b' : Nat) (g : List Int) (k : Nat) (w : World) (h : IT w A n c b p f) (h' : IT w A' n' c' b' p g) (hf : ∀ x ∈ f, numB p x = true) (hg : ∀ x ∈ g, numB p x = true)
    (hn : n ≤ 100000) (hn' : n' ≤ 100000) (hk : k + 1 < n + n') (h1 : 0 < n) (h2 : 0 < n') :
    Calls Tryd.prog 75 #[.slice A n c, .slice A' n' c', .int .i64 k] w (ResPost p (conv f g k % p) w) := by
  have HL := Lib.hid h.len
  have H := Lib.hid h
  have hcap := h.capn
  have hbig := h.big
  have HL' := Lib.hid h'.len
  have H' := Lib.hid h'
  have hcap' := h'.capn
  have hbig' := h'.big
  obtain rfl : A = some ⟨b, 0, none⟩ := by rcases h.adr with ⟨_, h1, _⟩ | h1 <;> first | omega | exact h1
  obtain rfl : A' = some ⟨b', 0, none⟩ := by rcases h'.adr with ⟨_, h1, _⟩ | h1 <;> first | omega | exact h1
  obtain ⟨fr, hfr⟩ : ∃ fr : Nat, fr = k + 1 - n' := ⟨_, rfl⟩
  have HFR := Lib.hid hfr
  obtain ⟨x, hx, hxp, hxc⟩ := h.cell fr (by omega)
  obtain ⟨y, hy, hyp, hyc⟩ := h'.cell (k - fr) (by omega)
  have hxv := hf x (List.mem_of_getElem? hx)
  have hyv := hg y (List.mem_of_getElem? hy)
  have hp := numB_bd hxv
  have HV := Lib.hid (And.intro hxv hyv)
  have HF := Lib.hid hf
  have HG := Lib.hid hg
  have HXY := Lib.hid (And.intro hx hy)
  have hfk : fr ≤ k := by omega
  have hfn : fr < n := by omega
  have hkf : k - fr < n' := by omega
  have hfi1 : (fr : Int) < (n : Int) := by omega
  have hkfi : ((k : Int) - (fr : Int)).toNat = k - fr := by omega
  have hkf0 : (0 : Int) ≤ (k : Int) - (fr : Int) := by omega
  have hkf1 : (k : Int) - (fr : Int) < (n' : Int) := by omega
  have hkfw : IntKind.i64.wrap ((k : Int) - (fr : Int)) = (k : Int) - (fr : Int) := IntWalk.i64_in _ ⟨by omega, by omega⟩
  have hbw : b < w.heap.size := cell_lt hxp
  have hbw' : b' < w.heap.size := cell_lt hyp
  have hne1 : w.heap.size ≠ b := by omega
  have hne2 : w.heap.size ≠ b' := by omega
  have hne3 : w.heap.size + 1 ≠ b := by omega
  have hne4 : w.heap.size + 1 ≠ b' := by omega
  clear h h' hf hg hx hy hxv hyv hfr
  go_enter Tryd.func75, Tryd.ntmps75
  go_upto_region 1 with (fail)
  go_cut [7] (fun v wx => v = .int .i64 (fr : Int) ∧ wx = w.alloc (.cells #[.int .i64 0, .int .i64 0] 71))
  case first =>
    by_cases hz : fr = 0
    · have hm0 : decide ((0 : Int) < (k : Int) - (n' : Int) + 1) = false := by have := HFR.out; simp; omega
      go_wp2_with (fail)
      go_meet
      subst hz
      exact ⟨rfl, rfl⟩
    · have hm1 : (k : Int) - (n' : Int) + 1 = (fr : Int) := by have := HFR.out; omega
      have hm0 : decide ((0 : Int) < (k : Int) - (n' : Int) + 1) = true := by rw [hm1]; simp; omega
      go_wp2_with (fail)
      go_meet
      exact ⟨rfl, rfl⟩
  case rest =>
  obtain ⟨rfl, rfl⟩ := hcut
  have W1 := Below.refl w.heap.size w |>.alloc (Nat.le_refl _) (.cells #[.int .i64 0, .int .i64 0] 71)
  have q1 := (keep_of_below W1).cell hxp (fun h => h)
  have q2 := (keep_of_below W1).cell hxc (fun h => h)
  have q3 := (keep_of_below W1).cell hyp (fun h => h)
  have q4 := (keep_of_below W1).cell hyc (fun h => h)
  clear hxp hxc hyp hyc
  go_upto_region 2 with (fail)
  go_cut [8] (fun v wx => ∃ sb, v = .pointer (some ⟨sb, 0, none⟩) ∧ Sums w wx sb p (x * y % p))
  case first =>
    go_region_held3 (fun w' => w'.cell? ⟨b, fr * 2, none⟩ = some (.int .i64 p) ∧ w'.cell? ⟨b, fr * 2 + 1, none⟩ = some (.int .i64 x) ∧ w'.cell? ⟨b', (k - fr) * 2, none⟩ = some (.int .i64 p) ∧ w'.cell? ⟨b', (k - fr) * 2 + 1, none⟩ = some (.int .i64 y)) (first | assumption | exact ⟨q1, q2, q3, q4⟩ | go_keep) ((go_at_call 102; refine (res_times p x y _ HV.out.1 HV.out.2).mono ?_; rintro e w' ⟨rfl, hB⟩; have z1 := (keep_of_below hB).cell (p := ⟨b, fr * 2, none⟩) (v := .int .i64 p) (by first | assumption | (simp [*]; done)) (fun h => h); have z2 := (keep_of_below hB).cell (p := ⟨b, fr * 2 + 1, none⟩) (v := .int .i64 x) (by first | assumption | (simp [*]; done)) (fun h => h); have z3 := (keep_of_below hB).cell (p := ⟨b', (k - fr) * 2, none⟩) (v := .int .i64 p) (by first | assumption | (simp [*]; done)) (fun h => h); have z4 := (keep_of_below hB).cell (p := ⟨b', (k - fr) * 2 + 1, none⟩) (v := .int .i64 y) (by first | assumption | (simp [*]; done)) (fun h => h); have zz := And.intro z1 (And.intro z2 (And.intro z3 z4)); have hcl := cellsOf hB; have hfz := frozenOf hB))
    all_goals
      go_wp2_with (fail)
      go_meet
      first
        | exact ⟨_, rfl, Sums.new' (Box.below (Box.new (p := 0) (s := 0) (Below.refl w.heap.size w) 71) ⟨hB.os, hB.tape, hB.output, hB.size, hB.block⟩) rfl _⟩
        | exact ⟨_, rfl, Sums.put (Sums.below (Sums.new' (p := 0) (s := 0) (Box.new (p := 0) (s := 0) (Below.refl w.heap.size w) 71) (by simp) 71) ⟨hB.os, hB.tape, hB.output, by simpa using hB.size, fun k hk => hB.block k (by simpa using hk)⟩)⟩
  case rest =>
  obtain ⟨sb, rfl, hbx⟩ := hcut
  clear W1 q1 q2 q3 q4 hne1 hne2 hne3 hne4 hkfi hkf0 hkf1 hkfw hfi1
  have HBX := Lib.hid hbx
  have hst0 : x * y % p = sigN (fr + 1) (fun j => f.getD j 0 * g.getD (k - j) 0) % p := by
    have : sigN (fr + 1) (fun j => f.getD j 0 * g.getD (k - j) 0) = x * y := by
      show sigN fr _ + f.getD fr 0 * g.getD (k - fr) 0 = _
      rw [sigN_zero (fun j hj => by show f.getD j 0 * g.getD (k - j) 0 = 0; rw [getD_far (xs := g) (by have := HFR.out; rw [HL'.out]; omega)]; simp), getD_at HXY.out.1, getD_at HXY.out.2]
      omega
    rw [this]
  rw [hst0] at HBX
  have HFR := Lib.hid (And.intro hfk hfn)
  clear hst0 hbx
  have hfw : IntKind.i64.wrap ((fr : Int) + 1) = (fr : Int) + 1 := IntWalk.i64_in _ ⟨by omega, by omega⟩
  go_wp2_with (fail)
  go_loopw [9] (fun v wr => ∃ i : Nat, fr + 1 ≤ i ∧ i ≤ n ∧ i ≤ k + 1 ∧ v = .int .i64 (i : Int) ∧ Sums w wr sb p (sigN i (fun j => f.getD j 0 * g.getD (k - j) 0) % p)) (fun v _ => n - (intOf v).toNat)
  case atStart => exact ⟨fr + 1, by omega, by omega, by omega, by simp, HBX.out⟩
  case round =>
    obtain ⟨i, hi0, hin, hik, rfl, hb⟩ := hrel
    by_cases hlt : i < n ∧ i ≤ k
    · obtain ⟨hl1, hl2⟩ := hlt
      have hbk : k - i < n' := by have := HFR.out; omega
      obtain ⟨u, hu, hup, huc⟩ := (H.out.below hb.box.bel).cell i hl1
      obtain ⟨v, hv, hvp, hvc⟩ := (H'.out.below hb.box.bel).cell (k - i) hbk
      have huv := HF.out u (List.mem_of_getElem? hu)
      have hvv := HG.out v (List.mem_of_getElem? hv)
      obtain ⟨S, hS⟩ : ∃ S, sigN i (fun j => f.getD j 0 * g.getD (k - j) 0) = S := ⟨_, rfl⟩
      have hst : sigN (i + 1) (fun j => f.getD j 0 * g.getD (k - j) 0) = S + u * v := by show sigN i _ + f.getD i 0 * g.getD (k - i) 0 = _; rw [hS, getD_at hu, getD_at hv]
      rw [hS] at hb
      have hpr := (numB_true huv).1
      have HV2 := Lib.hid (And.intro (And.intro huv hvv) (And.intro (numB_emod hpr S) (numB_emod hpr (u * v))))
      have HST := Lib.hid (show (S + u * v) % p = sigN (i + 1) (fun j => f.getD j 0 * g.getD (k - j) 0) % p by rw [hst])
      have HBB := Lib.hid hb
      have y1 := hb.box.c0
      have y2 := hb.box.c1
      have y3 := hb.box.hi
      have hfi1 : (i : Int) < (n : Int) := by omega
      have hik1 : (i : Int) ≤ (k : Int) := by omega
      have hkfi : ((k : Int) - (i : Int)).toNat = k - i := by omega
      have hkf0 : (0 : Int) ≤ (k : Int) - (i : Int) := by omega
      have hkf1 : (k : Int) - (i : Int) < (n' : Int) := by omega
      have hkfw : IntKind.i64.wrap ((k : Int) - (i : Int)) = (k : Int) - (i : Int) := IntWalk.i64_in _ ⟨by omega, by omega⟩
      clear hu hv huv hvv hst hS hb hpr
      go_upto_block 1 with (fail)
      go_cut [] (fun wx => Sums w wx sb p (sigN (i + 1) (fun j => f.getD j 0 * g.getD (k - j) 0) % p))
      case first =>
        go_wp2_with (fail)
        go_region_with (first | (go_at_call 102; refine (res_times p u v _ HV2.out.1.1 HV2.out.1.2).mono ?_; rintro e w' ⟨rfl, hB⟩; have Bq := Sums.below HBB.out ⟨hB.os, hB.tape, hB.output, hB.size, hB.block⟩; have x1 := Bq.box.c0; have x2 := Bq.box.c1; have BQ := Lib.hid Bq; clear Bq hB) | (go_at_call 101; refine (res_plus p (S % p) (u * v % p) _ HV2.out.2.1 HV2.out.2.2).mono ?_; rintro e w' ⟨rfl, hB⟩; have Bq2 := Sums.below BQ.out ⟨hB.os, hB.tape, hB.output, hB.size, hB.block⟩; have x3 := Bq2.box.c0; have x4 := Bq2.box.c1; have x5 := Bq2.box.f0; have x6 := Bq2.box.f1; have BQ2 := Lib.hid Bq2; clear Bq2 hB))
        all_goals
          go_wp2_with (fail)
          go_meet
          rw [← HST.out]
          exact Sums.put BQ2.out
      case rest =>
      have HC := Lib.hid hcut
      clear hcut
      go_wp2_with (fail)
      go_roundw
      case rel => exact ⟨i + 1, by omega, by omega, by omega, by go_num, HC.out⟩
      case measure => simp [intOf]; omega
    · have hres : sigN i (fun j => f.getD j 0 * g.getD (k - j) 0) = conv f g k := by
        unfold conv
        by_cases hik2 : i = k + 1
        · rw [hik2]
        · symm
          exact sigN_trunc (n := i) (m := k + 1) (by omega) (fun j h1 _ => by show f.getD j 0 * g.getD (k - j) 0 = 0; rw [getD_far (xs := f) (by rw [HL.out]; omega)]; simp)
      rw [hres] at hb
      have HBB := Lib.hid hb
      have y1 := hb.box.c0
      have y2 := hb.box.c1
      have y3 := hb.res.c0
      have y4 := hb.res.c1
      have y5 := hb.res.f0
      have y6 := hb.res.f1
      have HBE := Lib.hid (((hb.res.bel.setCell (p := ⟨w.heap.size, 0, none⟩) (Nat.le_refl _) (.int .i64 p)).setCell (p := ⟨w.heap.size, 1, none⟩) (Nat.le_refl _) (.int .i64 (conv f g k % p))))
      have zz0 : (wr.setCell ⟨w.heap.size, 0, none⟩ (.int .i64 p)).cell? ⟨w.heap.size, 0, none⟩ = some (.int .i64 p) := World.cell?_setCell_same _ _ _ y3
      have zz1 : ((wr.setCell ⟨w.heap.size, 0, none⟩ (.int .i64 p)).setCell ⟨w.heap.size, 1, none⟩ (.int .i64 (conv f g k % p))).cell? ⟨w.heap.size, 1, none⟩ = some (.int .i64 (conv f g k % p)) := (Box.put hb.res).c1
      have ZZ := Lib.hid (And.intro zz0 zz1)
      clear hb hres zz0 zz1
      by_cases hl1 : i < n
      · have hl2 : ¬ i ≤ k := by omega
        go_wp2_with (fail)
        refine bodyPost_ret (v := .agg #[.int .i64 p, .int .i64 (conv f g k % p)]) (by simp [results, Tryd.results75, go_sem, ZZ.out.1, ZZ.out.2]) rfl ⟨rfl, HBE.out⟩
      · go_wp2_with (fail)
        refine bodyPost_ret (v := .agg #[.int .i64 p, .int .i64 (conv f g k % p)]) (by simp [results, Tryd.results75, go_sem, ZZ.out.1, ZZ.out.2]) rfl ⟨rfl, HBE.out⟩
end Go.Proofs.YtecmclaockmgeaaDoor
namespace Go.Proofs.YtecmclaockmgeaaDoor
open Go.RowKit
set_option maxHeartbeats 1000000 in
theorem firstOf_any (p : Int) (A : Option Addr) (n c b : Nat) (f : List Int) (A' : Option Addr) (n' c' b' : Nat) (g : List Int) (N : Nat) (w : World) (h : IT w A n c b p f) (h' : IT w A' n' c' b' p g) (hf : ∀ x ∈ f, numB p x = true) (hg : ∀ x ∈ g, numB p x = true)
    (hn : n ≤ 100000) (hn' : n' ≤ 100000) (hN : 0 < N → 0 < n ∧ 0 < n' ∧ N + 1 ≤ n + n') (hNb : N ≤ 1000000) :
    Calls Tryd.prog 66 #[.slice A n c, .slice A' n' c', .int .i64 N] w (MadeT p (convR p f g N) w) := by
  have H := Lib.hid h
  have H' := Lib.hid h'
  have HF := Lib.hid hf
  have HG := Lib.hid hg
  obtain ⟨R, hR⟩ : ∃ R, convR p f g N = R := ⟨_, rfl⟩
  have hRl : R.length = N := by rw [← hR, convR_len]
  have HRG := Lib.hid (show ∀ k, k < N → R[k]? = some (conv f g k % p) from fun k hk => by rw [← hR]; exact convR_get p f g hk)
  have HR := Lib.hid hR
  have HRL := Lib.hid hRl
  have HN := Lib.hid hN
  have hmk := run_make_two (P := Tryd.prog) 67 71 (.int .i64 0) (.int .i64 0) 16 Tryd.underlying67 infoRes .i64 .i64 N (by omega) (by omega)
  clear h h' hf hg hR hRl hN
  go_enter Tryd.func66, Tryd.ntmps66
  go_wp2_with (fail)
  go_loopw [13] (fun i wr => ∃ k : Nat, k ≤ N ∧ i = .int .i64 k ∧ OZ wr w.heap.size (some ⟨w.heap.size, 0, none⟩) N N ((wp p R).take k ++ List.replicate (N - k) (0, 0)) ∧ Below w.heap.size w wr) (fun i _ => N - (intOf i).toNat)
  case atStart => exact ⟨0, by omega, rfl, by simpa using made_two w N (by omega), (Below.refl _ _).alloc (Nat.le_refl _) _⟩
  case round =>
    obtain ⟨k, hk, rfl, hown, hbel⟩ := hrel
    by_cases hlt : k < N
    · obtain ⟨h1, h2, h3⟩ := HN.out (by omega)
      have hlz := OZ.len hown
      obtain ⟨z, hz⟩ : ∃ z, ((wp p R).take k ++ List.replicate (N - k) (0, 0))[k]? = some z := ⟨_, List.getElem?_eq_getElem (by omega)⟩
      obtain ⟨e1, e2, e3, e4⟩ := OZ.cells hown hz
      have hwr := (hown.lt w.heap.size rfl).2
      have HO := Lib.hid hown
      have HB := Lib.hid hbel
      clear hown hbel hlz hz
      go_wp2_with (fail)
      refine (productAt_any p A n c b f A' n' c' b' g k _ (H.out.below HB.out) (H'.out.below HB.out) HF.out HG.out hn hn' (by omega) h1 h2).mono ?_
      rintro e w2 ⟨rfl, hB2⟩
      have x1 := (keep_of_below hB2).cell e1 (fun h => h)
      have x2 := (keep_of_below hB2).cell e2 (fun h => h)
      have x3 := ((keep_of_below hB2).frozen (p := ⟨w.heap.size, k * 2, none⟩) hwr (fun h => h)).trans e3
      have x4 := ((keep_of_below hB2).frozen (p := ⟨w.heap.size, k * 2 + 1, none⟩) hwr (fun h => h)).trans e4
      have hst := (OZ.below HO.out hB2).put k p (conv f g k % p)
      rw [two_mix (by rw [wp_len, HRL.out]) (wp_get (HRG.out k hlt))] at hst
      have HST := Lib.hid hst
      have HB3 := Lib.hid (((below_more HB.out hB2).setCell (p := ⟨w.heap.size, k * 2, none⟩) (Nat.le_refl _) (.int .i64 p)).setCell (p := ⟨w.heap.size, k * 2 + 1, none⟩) (Nat.le_refl _) (.int .i64 (conv f g k % p)))
      clear hst hB2 e1 e2 e3 e4
      go_wp2_with (fail)
      go_roundw
      case rel => exact ⟨k + 1, by omega, by go_num, HST.out, HB3.out⟩
      case measure => simp [intOf]; omega
    · have e : (wp p R).take k ++ List.replicate (N - k) (0, 0) = wp p R := by
        rw [show N - k = 0 by omega, List.take_of_length_le (by rw [wp_len, HRL.out]; omega)]; simp
      rw [e] at hown
      have HO := Lib.hid hown
      clear e hown
      go_wp2_with (fail)
      go_ret
      rw [HR.out]
      exact ⟨_, _, by rw [HRL.out]; rfl, by rw [HRL.out]; exact HO.out, hbel⟩
theorem terms_isZero (A : Option Addr) (n c : Nat) (w : World) :
    Calls Tryd.prog 72 #[.slice A n c] w fun e w' => e = .returned (.bool (decide (n = 0))) ∧ w = w' := by
  by_cases h : n = 0
  · subst h
    go_enter Tryd.func72, Tryd.ntmps72
    go_wp2_with (fail)
    go_ret
    exact ⟨rfl, rfl⟩
  · have h2 : ((n : Int) == 0) = false := by simpa using h
    have h3 : decide (n = 0) = false := decide_eq_false h
    go_enter Tryd.func72, Tryd.ntmps72
    go_wp2_with (fail)
    go_ret
    exact ⟨ret_bool h3.symm, rfl⟩
set_option maxHeartbeats 1000000 in
theorem times_any (p : Int) (A : Option Addr) (n c b : Nat) (f : List Int) (A' : Option Addr) (n' c' b' : Nat) (g : List Int) (w : World) (h : IT w A n c b p f) (h' : IT w A' n' c' b' p g) (hf : ∀ x ∈ f, numB p x = true) (hg : ∀ x ∈ g, numB p x = true)
    (hn : n ≤ 100000) (hn' : n' ≤ 100000) :
    Calls Tryd.prog 79 #[.slice A n c, .slice A' n' c'] w (MadeT p (trimL (tmsL p f g)) w) := by
  have hl := h.len
  have hl' := h'.len
  have H := Lib.hid h
  have H' := Lib.hid h'
  have HF := Lib.hid hf
  have HG := Lib.hid hg
  clear h h' hf hg
  by_cases h0 : n = 0
  · subst h0
    have HR := Lib.hid (show trimL (tmsL p f g) = [] by unfold tmsL; rw [show tmsN f g = 0 by unfold tmsN; rw [if_pos (by omega)]]; rfl)
    go_enter Tryd.func79, Tryd.ntmps79
    go_wp2_with (fail)
    refine (terms_isZero A 0 c _).mono ?_
    rintro e w1 ⟨rfl, rfl⟩
    rw [show decide ((0 : Nat) = 0) = true from rfl]
    go_wp2_with (fail)
    go_ret
    rw [HR.out]
    exact ⟨none, 0, rfl, World.ownsRow_nil _ _ _ _, Below.refl _ _⟩
  by_cases h0' : n' = 0
  · have hd : decide (n = 0) = false := decide_eq_false h0
    subst h0'
    have HR := Lib.hid (show trimL (tmsL p f g) = [] by unfold tmsL; rw [show tmsN f g = 0 by unfold tmsN; rw [if_pos (by omega)]]; rfl)
    go_enter Tryd.func79, Tryd.ntmps79
    go_wp2_with (fail)
    refine (terms_isZero A n c _).mono ?_
    rintro e w1 ⟨rfl, rfl⟩
    rw [hd]
    go_wp2_with (fail)
    refine (terms_isZero A' 0 c' _).mono ?_
    rintro e w1 ⟨rfl, rfl⟩
    rw [show decide ((0 : Nat) = 0) = true from rfl]
    go_wp2_with (fail)
    go_ret
    rw [HR.out]
    exact ⟨none, 0, rfl, World.ownsRow_nil _ _ _ _, Below.refl _ _⟩
  · have hd : decide (n = 0) = false := decide_eq_false h0
    have hd' : decide (n' = 0) = false := decide_eq_false h0'
    obtain ⟨N, hN⟩ : ∃ N, tmsN f g = N := ⟨_, rfl⟩
    have hNn : N + 1 = n + n' := by rw [← hN]; unfold tmsN; rw [if_neg (by omega)]; omega
    have HT := Lib.hid (show tmsL p f g = convR p f g N by unfold tmsL; rw [hN])
    have hNi : (n : Int) + (n' : Int) - 1 = (N : Int) := by omega
    clear hN
    go_enter Tryd.func79, Tryd.ntmps79
    go_wp2_with (fail)
    refine (terms_isZero A n c _).mono ?_
    rintro e w1 ⟨rfl, rfl⟩
    rw [hd]
    go_wp2_with (fail)
    refine (terms_isZero A' n' c' _).mono ?_
    rintro e w1 ⟨rfl, rfl⟩
    rw [hd']
    go_wp2_with (fail)
    refine (firstOf_any p A n c b f A' n' c' b' g N _ H.out H'.out HF.out HG.out hn hn' (fun _ => by omega) (by omega)).mono ?_
    rintro e w3 ⟨A3, c3, rfl, hO3, hB3⟩
    rw [← HT.out] at hO3 ⊢
    obtain ⟨L, hL⟩ : ∃ L, tmsL p f g = L := ⟨_, rfl⟩
    rw [hL] at hO3 ⊢
    obtain ⟨b3, hI3⟩ := OT.it hO3
    have HI3 := Lib.hid hI3
    have HO3 := Lib.hid hO3
    have HB3 := Lib.hid hB3
    have HLQ := Lib.hid hL
    clear hO3 hI3 hB3 hL HT
    go_wp2_with (fail)
    refine (trimmed_any p A3 L.length c3 b3 L _ HI3.out).mono ?_
    rintro e w4 ⟨rfl, hB4⟩
    have hT := OT.take (OZ.below HO3.out hB4) (k := (trimL L).length) (trim_le L)
    rw [take_trim L] at hT
    have HT := Lib.hid hT
    have HB4 := Lib.hid (below_more HB3.out hB4)
    clear hT hB4
    go_wp2_with (fail)
    go_ret
    rw [HLQ.out]
    exact ⟨_, _, rfl, HT.out, HB4.out⟩
end Go.Proofs.YtecmclaockmgeaaDoor
