/-
  The contracts of PolyAt.
-/
import Derived.Test.YtmmadmfpbancmaaBw
import Derived.Test.YtmmadmfpbancmaaPolM
import Derived.RangeFuncWrites
namespace Go.Proofs.Ytmmadmfpbancmaa
open Go.RowKit Go.Shelf
attribute [local go_sem] Oper.semAt_some
def polAt (p : Int) (f : List Int) (x : Int) : Int := if polB p f = true ∧ numB p x = true then atL p x f else -1
theorem polAt_bd (p : Int) (f : List Int) (x : Int) : -1 ≤ polAt p f x ∧ polAt p f x ≤ 13 := by
  unfold polAt
  split
  · rename_i hc
    have hb := numB_true (atL_bd (x := x) (numB_true hc.2).1 f)
    have := prime_ge hb.1
    omega
  · omega
/-- the value of those that have come, the last one first -/
def valF (p x : Int) (zs : List { y : Int // numB p y = true }) : Int := zs.foldl (fun v y => (v * x + y.1) % p) 0
theorem valF_snoc (p x : Int) (zs : List { y : Int // numB p y = true }) (y : { y : Int // numB p y = true }) : valF p x (zs ++ [y]) = (valF p x zs * x + y.1) % p := by simp [valF]
theorem valF_bd {p : Int} (hp : primeB p = true) (x : Int) (zs : List { y : Int // numB p y = true }) : 0 ≤ valF p x zs ∧ valF p x zs ≤ 12 := by
  have hpb := prime_ge hp
  rcases List.eq_nil_or_concat zs with rfl | ⟨zs, y, rfl⟩
  · exact ⟨by simp [valF], by simp [valF]⟩
  · rw [List.concat_eq_append, valF_snoc]
    exact ⟨Int.emod_nonneg _ (by omega), by have := Int.emod_lt_of_pos (valF p x zs * x + y.1) (show 0 < p by omega); omega⟩
theorem valF_all (p x : Int) (ys : List { y : Int // numB p y = true }) : valF p x ys.reverse = atL p x (ys.map (·.1)) := by
  unfold valF
  rw [List.foldl_reverse]
  induction ys with
  | nil => rfl
  | cons y ys ih => rw [List.foldr_cons, ih]; rfl
theorem lift_all {p : Int} : ∀ {f : List Int}, (∀ x ∈ f, numB p x = true) → ∃ ys : List { y : Int // numB p y = true }, ys.map (·.1) = f
  | [], _ => ⟨[], rfl⟩
  | x :: f, h => by
    obtain ⟨ys, hys⟩ := lift_all (f := f) (fun y hy => h y (by simp [hy]))
    exact ⟨⟨x, h x (by simp)⟩ :: ys, by rw [List.map_cons, hys]⟩
set_option maxRecDepth 100000 in
set_option maxHeartbeats 2000000 in
theorem implPolyAt (p : Int) (A : Option Addr) (n c b o : Nat) (f : List Int) (x : Int) (w : World) (h : IA w A n b o f) :
    Calls Try.prog 29 #[.int .i64 p, .slice A n c, .int .i64 x] w fun e w' => e = .returned (.int .i64 (polAt p f x)) ∧ Below w.heap.size w w' := by
  have H1 := Lib.hid (h.below (((Below.refl _ w).alloc (Nat.le_refl _) (.cells #[.int .i64 p] 3)).alloc (by simp) (.cells #[.int .i64 x] 3)))
  have HI := Lib.hid h
  have hB0 : Below w.heap.size w ((w.alloc (.cells #[.int .i64 p] 3)).alloc (.cells #[.int .i64 x] 3)) := ((Below.refl _ w).alloc (Nat.le_refl _) _).alloc (by simp) _
  have HB0 := Lib.hid hB0
  clear h hB0
  rcases hv : polB p f
  · have HV := Lib.hid hv
    have HE := Lib.hid (show polAt p f x = -1 by unfold polAt; rw [if_neg (by simp [hv])])
    clear hv
    go_enter Try.func29, Try.ntmps29
    go_wp2_with (fail)
    refine (implPolyValidB p A n c b o f _ H1.out).mono ?_
    rintro e w1 ⟨rfl, hB⟩
    rw [HV.out]
    go_wp2_with (fail)
    go_ret
    exact ⟨by rw [HE.out]; rfl, below_more HB0.out hB⟩
  rcases hx : numB p x
  · have HV := Lib.hid hv
    have HX := Lib.hid hx
    have HE := Lib.hid (show polAt p f x = -1 by unfold polAt; rw [if_neg (by simp [hx])])
    clear hv hx
    go_enter Try.func29, Try.ntmps29
    go_wp2_with (fail)
    refine (implPolyValid p A n c b o f _ H1.out).mono ?_
    rintro e w1 ⟨rfl, rfl⟩
    rw [HV.out]
    go_wp2_with (fail)
    refine (implNumValid p x _).mono ?_
    rintro e w2 ⟨rfl, rfl⟩
    rw [HX.out]
    go_wp2_with (fail)
    go_ret
    exact ⟨by rw [HE.out]; rfl, HB0.out⟩
  have HE := Lib.hid (show polAt p f x = atL p x f by unfold polAt; rw [if_pos ⟨hv, hx⟩])
  obtain ⟨hp, hx0, hx1⟩ := numB_true hx
  have hpb := prime_ge hp
  obtain ⟨ys, rfl⟩ := lift_all (serB_true (polB_ser hv)).2.2
  have hbw : 0 < n → b < w.heap.size := fun hn => by obtain ⟨_, _, h2⟩ := HI.out.cell 0 hn; exact cell_lt h2
  have HP := Lib.hid hp
  have HV := Lib.hid hv
  have HX := Lib.hid hx
  have HBW := Lib.hid hbw
  clear hp hv hx hbw
  obtain ⟨v0, hv0⟩ : ∃ v0, polAt p (ys.map (·.1)) x = v0 := ⟨_, rfl⟩
  rw [hv0] at HE ⊢
  clear hv0
  refine (callsIn_wide (n := 3)).1 ?_
  refine callsIn_of_wp_marks Try.func29 rfl trivial ?_ rfl
  simp only [Try.ntmps29, List.size_toArray, List.length_cons, List.length_nil, Nat.reduceAdd, Nat.reduceSub, Array.replicate_succ, Array.replicate_zero, List.push_toArray, List.append_toArray, List.nil_append, List.cons_append]
  refine wpIn_wide.2 ?_
  go_wp2_with (fail)
  refine (implPolyValid p A n c b o _ _ H1.out).mono ?_
  rintro e w1 ⟨rfl, rfl⟩
  rw [HV.out]
  go_wp2_with (fail)
  refine (implNumValid p x _).mono ?_
  rintro e w2 ⟨rfl, rfl⟩
  rw [HX.out]
  go_wp2_with (fail)
  refine ((callsIn_wide (n := 3)).1 (backward_in Fence.wide 3 trivial rfl _ _ _ _)).mono ?_
  rintro e w3 ⟨rfl, rfl⟩
  have bP := Boxed.new w 3 (.int .i64 p)
  have bX := Boxed.new (w.alloc (.cells #[.int .i64 p] 3)) 3 (.int .i64 x)
  have bV := Boxed.new ((w.alloc (.cells #[.int .i64 p] 3)).alloc (.cells #[.int .i64 x] 3)) 3 (.int .i64 0)
  have bN := Boxed.new (((w.alloc (.cells #[.int .i64 p] 3)).alloc (.cells #[.int .i64 x] 3)).alloc (.cells #[.int .i64 0] 3)) 23 (.slice A n c)
  have hB3 : Below w.heap.size w ((((w.alloc (.cells #[.int .i64 p] 3)).alloc (.cells #[.int .i64 x] 3)).alloc (.cells #[.int .i64 0] 3)).alloc (.cells #[.slice A n c] 23)) := (HB0.out.alloc HB0.out.size _).alloc (by simp; omega) _
  simp only [World.size_alloc] at bX bV bN
  have hI3 := HI.out.below hB3
  go_wp2_with (fail)
  refine (wpIn_wide (n := 3)).1 ?_
  have hvb := fun zs => valF_bd HP.out x zs
  refine wpIn_rangeFunc_ownG rfl (by decide) (gf := 73) (lb := #[.pointer (some ⟨w.heap.size + 1 + 1 + 1, 0, none⟩)]) rfl trivial (enters_of Try.func73 (by kernel_rfl) rfl)
    (backward_stops Fence.wide 2 trivial rfl (by decide) (w.heap.size + 1 + 1 + 1) w.heap.size n c b o A ys _ bN.cell hI3 HBW.out (by simp)) kpB_t (kpB_b (by simp; omega) (by simp)) (Below.refl _ _) (fun _ => rfl)
    (fun pre W => ((W.cell? ⟨w.heap.size + 1 + 1, 0, none⟩ = some (.int .i64 (valF p x (pre.map (·.2)))) ∧ W.frozen? ⟨w.heap.size + 1 + 1, 0, none⟩ = false) ∧ W.cell? ⟨w.heap.size, 0, none⟩ = some (.int .i64 p) ∧ W.cell? ⟨w.heap.size + 1, 0, none⟩ = some (.int .i64 x)) ∧ Below w.heap.size w W)
    (fun _ _ _ => False)
    (OwnFrom.and (Own.from (fun s A B row hs hg hr => ⟨⟨cell_kept hs.1.1 hg hr, (frozen_kept hs.1.1 hg hr).trans hs.1.2⟩, cell_kept hs.2.1 hg hr, cell_kept hs.2.2 hg hr⟩) _) (ownFrom_below (Nat.le_refl _) (by simp; omega)))
    (fun _ _ _ _ _ hs _ _ => hs)
    ⟨⟨⟨(bV.alloc _).cell, (bV.alloc _).frozen⟩, (((bP.alloc _).alloc _).alloc _).cell, ((bX.alloc _).alloc _).cell⟩, hB3⟩
    (fun y => { tmps := #[.int .i64 p, .slice A n c, .int .i64 x, .pointer (some ⟨w.heap.size, 0, none⟩), undef, .pointer (some ⟨w.heap.size + 1, 0, none⟩), .int .i64 0, .pointer (some ⟨w.heap.size + 1 + 1, 0, none⟩), undef, .int .i64 y.2.1, .int .i64 p, .slice A n c, .bool true, .bool false, .bool false, .int .i64 p, .int .i64 x, .bool true, .bool false, .bool false, .slice A n c, .func (.func 73) #[] #[.pointer (some ⟨w.heap.size + 1 + 1 + 1, 0, none⟩)], .int .i64 y.1, .int .i64 y.2.1, undef, undef, undef, undef, undef, undef, undef, undef], defers := [] }) ?assign ?body ?done ?stop
  case assign =>
    intro l y W K hK
    gi_wp2
    exact hK
  case body =>
    rintro l pre y W ⟨⟨⟨hc, hf⟩, hcp, hcx⟩, hB⟩ _
    have hy := numB_true y.2.2
    obtain ⟨v, hv⟩ : ∃ v, valF p x (pre.map (·.2)) = v := ⟨_, rfl⟩
    have hv2 : valF p x ((pre ++ [y]).map (·.2)) = (v * x + y.2.1) % p := by rw [List.map_append]; show valF p x (_ ++ [y.2]) = _; rw [valF_snoc, hv]
    have hvv := hvb (pre.map (·.2))
    rw [hv] at hvv hc
    have hm0 : 0 ≤ v * x := Int.mul_nonneg hvv.1 hx0
    have hm1 : v * x ≤ 12 * 12 := Int.mul_le_mul hvv.2 (by omega) hx0 (by omega)
    have hw1 : IntKind.i64.wrap (v * x) = v * x := IntWalk.i64_in _ ⟨by omega, by omega⟩
    have hw2 : IntKind.i64.wrap (v * x + y.2.1) = v * x + y.2.1 := IntWalk.i64_in _ ⟨by omega, by omega⟩
    have hp0 : p ≠ 0 := by omega
    gi_wp2
    have hk := (Keep.refl (fun q => q = w.heap.size + 1 + 1) W).setCell (p := ⟨w.heap.size + 1 + 1, 0, none⟩) (fun _ => rfl) (.int .i64 ((v * x + y.2.1) % p))
    exact ⟨(KeepsOthers.setCell _ _ _).from _, ⟨(Below.refl w.heap.size W).setCell (p := ⟨w.heap.size + 1 + 1, 0, none⟩) (show w.heap.size ≤ w.heap.size + 1 + 1 by omega) _, Below.heap_setCell _ _ _ _ (show w.heap.size + 1 + 1 + 1 ≠ w.heap.size + 1 + 1 by omega)⟩,
      ⟨⟨by rw [hv2]; exact World.cell?_setCell_same' _ _ _ (by rw [hc]; rfl), by rw [World.frozen?_setCell]; exact hf⟩, hk.cell hcp (show w.heap.size ≠ w.heap.size + 1 + 1 by omega), hk.cell hcx (show w.heap.size + 1 ≠ w.heap.size + 1 + 1 by omega)⟩, hB.setCell (p := ⟨w.heap.size + 1 + 1, 0, none⟩) (show w.heap.size ≤ w.heap.size + 1 + 1 by omega) _⟩
  case done =>
    rintro D zs W hD hz ⟨⟨⟨hc, hf⟩, hcp, hcx⟩, hB⟩ hK
    rw [hz, valF_all, HE.out.symm] at hc
    go_wp2_with (fail)
    refine ⟨by simp, .inl ⟨_, _, rfl, run_takeDeferred hK, ?_⟩⟩
    refine ⟨.int .i64 v0, ?_, rfl, hB.trans (belowK_b (w := w) (Nat.le_refl _) W D _ _ (by simp at hD; omega) hK rfl rfl)⟩
    simp [results, Try.f29, go_sem]
  case stop =>
    rintro D c pre W _ _ h _
    exact h.elim
theorem drop_at {f : List Int} {m : Nat} {y : Int} (h : f[m]? = some y) : f.drop m = y :: f.drop (m + 1) := by
  obtain ⟨hm, rfl⟩ := List.getElem?_eq_some_iff.1 h
  exact List.drop_eq_getElem_cons hm
end Go.Proofs.Ytmmadmfpbancmaa
