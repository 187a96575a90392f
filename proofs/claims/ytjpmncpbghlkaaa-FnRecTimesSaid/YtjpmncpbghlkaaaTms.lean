/-
  The contracts of slices.Clone over numbers, RecTimes of the program.
-/
import Derived.Deep.RegionHeld3
import Derived.Test.YtjpmncpbghlkaaaBxs
import Derived.Test.YtjpmncpbghlkaaaSRPol
import Derived.Test.YtjpmncpbghlkaaaElim
namespace Go.Proofs.Ytjpmncpbghlkaaa
open Go.RowKit
theorem mixI_set {xs ys : List Int} {k : Nat} {y : Int} (hl : ys.length = xs.length) (hy : ys[k]? = some y) : (ys.take k ++ xs.drop k).set k y = ys.take (k + 1) ++ xs.drop (k + 1) := set_step ys xs k y hl hy
def RowPostI (B n c : Nat) (A : Option Addr) (ys : List Int) (w : World) (e : Ending) (w' : World) : Prop :=
  e = .returned (.tuple #[]) ∧ OI w' B A n c ys ∧ Keep (fun g => (Value.slice A n c).ownBlock = some g) w w'
theorem scaleI_get {p t : Int} {row : List Int} {k : Nat} {x : Int} (h : row[k]? = some x) : (scaleRow p t row)[k]? = some (x * t % p) := by simp [scaleRow, h]
theorem multiplyI_any (p t : Int) (B : Nat) (A : Option Addr) (n c : Nat) (xs : List Int) (w : World) (h : OI w B A n c xs) (ht : numB p t = true) (hx : ∀ x ∈ xs, numB p x = true) (hn : n ≤ 1000) :
    Calls Try.prog 70 #[.int .i64 p, .slice A n c, .int .i64 t] w (RowPostI B n c A (scaleRow p t xs) w) := by
  have htb := numB_bd ht
  have hlen := h.len
  have hadr := h.adr
  have H := Lib.hid h
  have HX := Lib.hid hx
  have HL := Lib.hid hlen
  have HA := Lib.hid hadr
  clear h hlen hadr hx ht
  go_enter Try.func70, Try.ntmps70
  go_wp2_with (fail)
  go_loopw [9] (fun i wr => ∃ j : Nat, j ≤ n ∧ i = .int .i64 j ∧ OI wr B A n c ((scaleRow p t xs).take j ++ xs.drop j) ∧ Keep (fun g => (Value.slice A n c).ownBlock = some g) w wr) (fun i _ => n - (intOf i).toNat)
  case atStart => exact ⟨0, by omega, rfl, by simpa using H.out, Keep.refl _ _⟩
  case round =>
    obtain ⟨j, hj, rfl, hown, hkeep⟩ := hrel
    by_cases hlt : j < n
    · obtain ⟨g, hg, hBg⟩ : ∃ g, A = some ⟨g, 0, none⟩ ∧ B ≤ g := by
        rcases HA.out with ⟨_, h0, _⟩ | ⟨g, h1, h2, _⟩
        · omega
        · exact ⟨g, h1, h2⟩
      subst hg
      have hl := HL.out
      have hxj : xs[j]? = some (xs[j]'(by omega)) := List.getElem?_eq_getElem (by omega)
      obtain ⟨x, hxx⟩ : ∃ x, xs[j]'(by omega) = x := ⟨_, rfl⟩
      rw [hxx] at hxj
      have hxb := numB_bd (HX.out x (List.mem_of_getElem? hxj))
      have hm := mul_bd hxb.1 (by omega) htb.1 (by omega)
      have hcell := World.ownsRow.cellAt hown j (by omega)
      have hmx : (ints ((scaleRow p t xs).take j ++ xs.drop j))[j]? = some (.int .i64 x) := by
        unfold ints; rw [List.getElem?_map, mix_get _ _ _ (scaleRow_len p t xs) (by rw [scaleRow_len]; omega), hxj]; rfl
      rw [hmx] at hcell
      have hfr := World.ownsRow.frozenAt hown j
      have hst := World.ownsRow.stored hown j (.int .i64 (x * t % p))
      rw [ints_set, mixI_set (scaleRow_len p t xs) (scaleI_get hxj)] at hst
      have HO := Lib.hid hst.1
      have HK := Lib.hid (hkeep.trans ((setCell_keep wr ⟨g, j, none⟩ (.int .i64 (x * t % p))).mono (fun q _ hq => by rw [hq]; rfl)))
      clear hmx hst hown hkeep hl hxj hxx
      go_wp2_with (fail)
      go_roundw
      case rel => exact ⟨j + 1, by omega, by go_num, HO.out, HK.out⟩
      case measure => simp [intOf]; omega
    · obtain rfl : j = n := by omega
      have e : (scaleRow p t xs).take j ++ xs.drop j = scaleRow p t xs := by
        rw [List.take_of_length_le (by rw [scaleRow_len, HL.out]; omega), List.drop_of_length_le (by rw [HL.out]; omega)]; simp
      rw [e] at hown
      have HO := Lib.hid hown
      clear e hown
      go_wp2_with (fail)
      go_end0
      exact ⟨rfl, HO.out, hkeep⟩
theorem nilI1 (A : Addr) (n c : Nat) : ∀ w, (binOp BinOp.eql 23 (Value.slice (some A) n c) (Value.slice none 0 0)).run Try.prog w = .ok (.bool false) w := by
  intro w
  first | kernel_rfl | rfl
theorem nilI0 (n c : Nat) : ∀ w, (binOp BinOp.eql 23 (Value.slice none n c) (Value.slice none 0 0)).run Try.prog w = .ok (.bool true) w := by
  intro w
  first | kernel_rfl | rfl
theorem cloneI_any (A : Option Addr) (n c b o : Nat) (xs : List Int) (w : World) (h : IA w A n b o xs) (hn : n ≤ 1000000) :
    Calls Try.prog 67 #[.slice A n c] w (MadeI n xs w) := by
  have HL := Lib.hid h.len
  have H := Lib.hid h
  cases A with
  | none =>
    have h0 : n = 0 := by
      by_cases h0 : n = 0
      · exact h0
      · have := h.adr (by omega); cases this
    clear h
    subst h0
    have HX := Lib.hid (List.eq_nil_of_length_eq_zero HL.out)
    have hq := nilI0 0 c
    go_enter Try.func67, Try.ntmps67
    go_wp2_with (fail)
    go_ret
    rw [HX.out]
    exact ⟨none, 0, rfl, World.ownsRow_nil _ _ _ _, Below.refl _ _⟩
  | some a =>
    clear h
    have hq := nilI1 a n c
    go_enter Try.func67, Try.ntmps67
    go_wp2_with (at_builtin; refine wpList_app_row rfl (.tmp 5) (.tmp 6) rfl rfl w.heap.size w.heap.size 0 0 [] rfl (oi_empty w _ (Nat.le_refl _)) (some a) n c b o xs rfl (H.out.below ((Below.refl _ _).alloc (Nat.le_refl _) _)) (by simp) (by omega) (by simp) ?_)
    intro A' c' w' h2 h3
    have HO := Lib.hid h2
    have HB := Lib.hid (((Below.refl w.heap.size w).alloc (Nat.le_refl _) (.cells #[] 3)).grown h3 (by simp) (by intro k hk; simp at hk; omega))
    clear h2 h3
    go_wp2_with (fail)
    go_ret
    exact ⟨A', c', rfl, HO.out, HB.out⟩
def timesO (p : Int) (T F : List Int) (t : Int) : Int × List Int × List Int := if recB p T F = true ∧ numB p t = true then (p, T, scaleRow p t F) else (0, [], [])
theorem timesO_len (p : Int) (T F : List Int) (t : Int) : (timesO p T F t).2.1.length ≤ 1048576 ∧ (timesO p T F t).2.2.length ≤ 1048576 := by
  unfold timesO
  split
  · rename_i h
    obtain ⟨_, h6, hl, _, _⟩ := recB_true h.1
    simp only [scaleRow_len]
    omega
  · simp
set_option maxRecDepth 100000 in
set_option maxHeartbeats 2000000 in
theorem implRecTimes (v : Value) (p : Int) (T F : List Int) (t : Int) (w : World) (h : RV w v p T F) :
    Calls Try.prog 44 #[v, .int .i64 t] w (MadeR (timesO p T F t).1 (timesO p T F t).2.1 (timesO p T F t).2.2 w) := by
  obtain ⟨A, n, c, b, o, A', n', c', b', o', rfl, g1, g2⟩ := h
  have H := Lib.hid (show RV w (.agg #[.int .i64 p, .slice A n c, .slice A' n' c']) p T F from ⟨_, _, _, _, _, _, _, _, _, _, rfl, g1, g2⟩)
  have HT2 := Lib.hid g1
  have HF2 := Lib.hid g2
  have HL := Lib.hid g1.len
  have HL' := Lib.hid g2.len
  have hbx := (Bx.new w (.int .i64 p) (.slice A n c) (.slice A' n' c') 25).below (below_new _ (.cells #[.int .i64 0, .slice none 0 0, .slice none 0 0] 25))
  have hbw := BxW.new (w.alloc (.cells #[.int .i64 p, .slice A n c, .slice A' n' c'] 25)) (.int .i64 0) (.slice none 0 0) (.slice none 0 0) 25
  rw [World.size_alloc] at hbw
  have hB0 := ((Below.refl w.heap.size w).alloc (Nat.le_refl _) (.cells #[.int .i64 p, .slice A n c, .slice A' n' c'] 25)).alloc (by simp) (.cells #[.int .i64 0, .slice none 0 0, .slice none 0 0] 25)
  have HV0 := Lib.hid (H.out.below hB0)
  have HBX := Lib.hid hbx
  have HBW := Lib.hid hbw
  have HB0 := Lib.hid hB0
  clear g1 g2 hbx hbw hB0
  rcases hv : recB p T F
  · have HV := Lib.hid hv
    have HE := Lib.hid (show timesO p T F t = (0, [], []) by unfold timesO; rw [if_neg (by simp [hv])])
    clear hv
    go_enter Try.func44, Try.ntmps44
    go_wp2_with (go_at_call 16; refine (implRecValid _ p T F _ HV0.out).mono ?_; rintro e w1 ⟨rfl, hB⟩; rw [HV.out]; have HB1 := Lib.hid (below_more HB0.out hB); have hbw := HBW.out.below hB; have x0 := hbw.c.1; have x1 := hbw.c.2.1; have x2 := hbw.c.2.2; have fz := hbw.fz; clear hB hbw)
    refine bodyPost_ret (v := .agg #[.int .i64 0, .slice none 0 0, .slice none 0 0]) (by simp [results, Try.f44, go_sem, x0, x1, x2]) rfl ?_
    rw [HE.out]
    exact made_zero HB1.out (by omega)
  have HV := Lib.hid hv
  rcases ht : numB p t
  · have HN := Lib.hid ht
    have HE := Lib.hid (show timesO p T F t = (0, [], []) by unfold timesO; rw [if_neg (by simp [ht])])
    clear hv ht
    go_enter Try.func44, Try.ntmps44
    go_wp2_with (first | (go_at_call 16; refine (implRecValid _ p T F _ HV0.out).mono ?_; rintro e w1 ⟨rfl, hB⟩; rw [HV.out]; have HB1 := Lib.hid (below_more HB0.out hB); have hbx := HBX.out.below hB; have y0 := hbx.1; have hbw := HBW.out.below hB; have x0 := hbw.c.1; have x1 := hbw.c.2.1; have x2 := hbw.c.2.2; have fz := hbw.fz; clear hB hbx hbw) | (go_at_call 69; refine (implNumValid _ _ _).mono ?_; rintro e w1' ⟨rfl, rfl⟩; rw [HN.out]))
    refine bodyPost_ret (v := .agg #[.int .i64 0, .slice none 0 0, .slice none 0 0]) (by simp [results, Try.f44, go_sem, x0, x1, x2]) rfl ?_
    rw [HE.out]
    exact made_zero HB1.out (by omega)
  obtain ⟨hp, h6, hl, hT, hF⟩ := recB_true hv
  have HN := Lib.hid ht
  have HF := Lib.hid hF
  have HE := Lib.hid (show timesO p T F t = (p, T, scaleRow p t F) by unfold timesO; rw [if_pos ⟨hv, ht⟩])
  have hn6 : n' ≤ 8 := by rw [← HL'.out]; omega
  have hn6' : n ≤ 8 := by rw [← HL.out]; omega
  clear hv ht hp hT hF hl h6
  go_enter Try.func44, Try.ntmps44
  go_wp2_with (first | (go_at_call 16; refine (implRecValid _ p T F _ HV0.out).mono ?_; rintro e w1 ⟨rfl, hB⟩; rw [HV.out]; have HB1 := Lib.hid (below_more HB0.out hB); have hbx := HBX.out.below hB; have y0 := hbx.1; have y1 := hbx.2.1; have y2 := hbx.2.2; have HBX1 := Lib.hid hbx; have HBW1 := Lib.hid (HBW.out.below hB); clear hB hbx) | (go_at_call 69; refine (implNumValid _ _ _).mono ?_; rintro e w1' ⟨rfl, rfl⟩; rw [HN.out]))
  refine (cloneI_any A' n' c' b' o' F _ (HF2.out.below HB1.out) (by omega)).mono ?_
  rintro e wA ⟨A5, c5, rfl, hO, hB⟩
  have HO5 := Lib.hid hO
  have HB2 := Lib.hid (below_more HB1.out hB)
  have HBX2 := Lib.hid (HBX1.out.below hB)
  have HBW2 := Lib.hid (HBW1.out.below hB)
  have hs1 := HBW1.out.c.lt
  clear hO hB y0 y1 y2
  obtain ⟨y0, y1, y2⟩ := HBX2.out
  go_wp2_with (fail)
  refine (multiplyI_any p t w1.heap.size A5 n' c5 F _ HO5.out HN.out HF.out (by omega)).mono ?_
  rintro e wB ⟨rfl, hO, hK⟩
  have hnb : ∀ g, (Value.slice A5 n' c5).ownBlock = some g → w1.heap.size ≤ g := fun g hg => (HO5.out.lt g hg).1
  have HNB := Lib.hid hnb
  have HO6 := Lib.hid hO
  have HB3 := Lib.hid (HB2.out.trans (hK.below HB2.out.size (fun g hg => by have := hnb g hg; omega)))
  have HBX3 := Lib.hid (HBX2.out.keep hK (fun hg => by have := hnb _ hg; omega))
  have HBW3 := Lib.hid (HBW2.out.keep hK (fun hg => by have := hnb _ hg; omega))
  clear hO hK hnb y0 y1 y2
  obtain ⟨y0, y1, y2⟩ := HBX3.out
  go_wp2_with (fail)
  have hne : w.heap.size ≠ w.heap.size + 1 := by omega
  have hf0 : ∀ (W : World) (o o' : Nat) (v : Value), (W.setCell ⟨w.heap.size + 1, o, none⟩ v).cell? ⟨w.heap.size, o', none⟩ = W.cell? ⟨w.heap.size, o', none⟩ := fun W o o' v => World.cell?_setCell_far _ _ _ _ (by show w.heap.size + 1 ≠ w.heap.size; omega)
  have HTd := Lib.hid (HT2.out.below HB3.out.drew)
  have ZS := HBX3.out
  have Zd := HBX3.out.drew
  unfold Bx at ZS Zd
  go_region_held3 (fun w' => w'.cell? ⟨w.heap.size, 0, none⟩ = some (.int .i64 p) ∧ w'.cell? ⟨w.heap.size, 1, none⟩ = some (.slice A n c) ∧ w'.cell? ⟨w.heap.size, 2, none⟩ = some (.slice A' n' c')) (first | assumption | exact ZA | exact Zd | exact ZS | (refine ⟨?_, ?_, ?_⟩ <;> (simp only [hf0]; assumption)) | go_keep)
    ((go_at_call 67; refine (cloneI_any A n c b o T _ HTd.out (by omega)).mono ?_; rintro e wC ⟨A6, c6, rfl, hO, hB⟩; have HO7 := Lib.hid hO; have HB4 := Lib.hid (below_more HB3.out.drew hB); have HBX4 := HBX3.out.drew.below hB; have ZA := HBX4; unfold Bx at ZA; have r0 := HBX4.1; have r1 := HBX4.2.1; have r2 := HBX4.2.2; have hbw := HBW3.out.drew.below hB; have x0 := hbw.c.1; have x1 := hbw.c.2.1; have x2 := hbw.c.2.2; have fz := hbw.fz; have HO8 := Lib.hid (OIb HO6.out ((below_new_drew wB).trans hB)); clear hO hB hbw HBX4))
  all_goals
    clear ZS Zd
    go_wp2_with (fail)
    refine bodyPost_ret (v := .agg #[.int .i64 p, .slice A6 n c6, .slice A5 n' c5]) (by simp [results, Try.f44, go_sem, x0, x1, x2]) rfl ?_
    rw [HE.out]
    have hsB : wB.drew.heap.size = wB.heap.size := rfl
    have hs3 := HBW3.out.c.lt
    have hsw := HB1.out.size
    refine made_set3 HB4.out HL.out (by rw [scaleRow_len]; exact HL'.out) HO7.out HO8.out (by rw [hsB]; omega) (by omega) (by omega) (fun k hk => by have := (HO7.out.lt k hk).1; rw [hsB] at this; omega) (fun k hk => by have := HNB.out k hk; omega) ?_
    rcases hg : (Value.slice A6 n c6).ownBlock with _ | g
    · exact .inl hg
    · right
      rw [hg]
      intro e
      have h1 := (HO7.out.lt g hg).1
      have h2 := (HO6.out.lt g e.symm).2
      rw [hsB] at h1
      omega
end Go.Proofs.Ytjpmncpbghlkaaa
