/-
  The contract of reduceRows.
-/
import Derived.Test.YtcjpjcigjljplaaRow
import Derived.BigRegion
namespace Go.Proofs.Ytcjpjcigjljplaa
open Go.RowKit
/-- the rows of a slice of slices, all in blocks of their own from B on, below hi, the slice of slices itself in block g -/
structure OMF (w : World) (B hi g n c : Nat) (M : List (List Int)) (vs : List Value) : Prop where
  om : OM w B (some ⟨g, 0, none⟩) n c M vs
  gl : g < hi
  foot : Foot vs B hi
theorem OMF.cell {w : World} {B hi g n c : Nat} {M : List (List Int)} {vs : List Value} (h : OMF w B hi g n c M vs) {r : Nat} (hr : r < n) :
    ∃ (row : List Int) (A' : Option Addr) (c' : Nat), M[r]? = some row ∧ vs[r]? = some (Value.slice A' row.length c') ∧ w.cell? ⟨g, r, none⟩ = some (.slice A' row.length c') ∧ OI w B A' row.length c' row ∧ w.frozen? ⟨g, r, none⟩ = false := by
  have hrow : M[r]? = some (M[r]'(by rw [h.om.len]; exact hr)) := List.getElem?_eq_getElem (by rw [h.om.len]; exact hr)
  obtain ⟨A', c', h1, h2⟩ := h.om.row r _ hrow
  have hc := World.ownsRow.cellAt h.om.out r (by omega)
  rw [h1] at hc
  exact ⟨_, A', c', hrow, h1, hc, h2, World.ownsRow.frozenAt h.om.out r⟩
def swapV (vs : List Value) (i j : Nat) : List Value := (vs.set i (vs.getD j undef)).set j (vs.getD i undef)
theorem swap_get {α : Type} (d : α) (l : List α) (i j k : Nat) (hi : i < l.length) (hj : j < l.length) : ((l.set i (l.getD j d)).set j (l.getD i d))[k]? = if k = j then l[i]? else if k = i then l[j]? else l[k]? := by
  by_cases h1 : k = j
  · subst h1
    rw [if_pos rfl, List.getElem?_set_self (by simpa using hj), List.getD_eq_getElem?_getD, List.getElem?_eq_getElem hi]; rfl
  · rw [if_neg h1, List.getElem?_set_ne (fun e => h1 e.symm)]
    by_cases h2 : k = i
    · subst h2
      rw [if_pos rfl, List.getElem?_set_self hi, List.getD_eq_getElem?_getD, List.getElem?_eq_getElem hj]; rfl
    · rw [if_neg h2, List.getElem?_set_ne (fun e => h2 e.symm)]
theorem OMF.swap {w w' : World} {B hi g n c : Nat} {M : List (List Int)} {vs : List Value} (h : OMF w B hi g n c M vs) {i j : Nat} (hin : i < n) (hjn : j < n)
    (ho : w'.ownsRow B 23 1 (.slice (some ⟨g, 0, none⟩) n c) n (swapV vs i j)) (hk : Keep (· = g) w w') : OMF w' B hi g n c (swapM M i j) (swapV vs i j) := by
  have hvl := h.om.vlen
  have hM := h.om.len
  have hsv := fun k => swap_get undef vs i j k (by omega) (by omega)
  have hsm := fun k => swap_get [] M i j k (by omega) (by omega)
  have keepI : ∀ (A2 : Option Addr) (m c2 : Nat) (xs : List Int), OI w B A2 m c2 xs → OI w' B A2 m c2 xs := fun A2 m c2 xs hx => owns_keep hx hk (fun q hq hs => block_elem hx h.om.out (by decide) q hq (by simp [Value.ownBlock, hs]))
  have hrow : ∀ (r : Nat) (row : List Int), (swapM M i j)[r]? = some row → ∃ q, (swapM M i j)[r]? = M[q]? ∧ (swapV vs i j)[r]? = vs[q]? ∧ q = (if r = j then i else if r = i then j else r) := by
    intro r row _
    refine ⟨if r = j then i else if r = i then j else r, ?_, ?_, rfl⟩
    · unfold swapM; rw [hsm]; split
      · rfl
      · split <;> rfl
    · unfold swapV; rw [hsv]; split
      · rfl
      · split <;> rfl
  refine ⟨⟨ho, by rw [swapM_len]; exact hM, fun r row hr => ?_, fun r s u u' hrs hu hu' => ?_⟩, h.gl, fun r u q hu hq => ?_⟩
  · obtain ⟨q, e1, e2, _⟩ := hrow r row hr
    rw [e1] at hr
    obtain ⟨A', c', h1, h2⟩ := h.om.row q row hr
    exact ⟨A', c', by rw [e2]; exact h1, keepI _ _ _ _ h2⟩
  · unfold swapV at hu hu'
    rw [hsv] at hu hu'
    have ap : ∀ (a b : Nat) (u u' : Value), a ≠ b → vs[a]? = some u → vs[b]? = some u' → Apart u u' := by
      intro a b u u' hab hu hu'
      rcases Nat.lt_or_gt_of_ne hab with hlt | hlt
      · exact h.om.apart a b u u' hlt hu hu'
      · rcases h.om.apart b a u' u hlt hu' hu with h1 | h1
        · rcases hq : u.ownBlock with _ | q
          · exact .inl hq
          · exact .inr (by rw [hq, h1]; simp)
        · exact .inr (fun e => h1 e.symm)
    split at hu <;> split at hu' <;> (try (split at hu)) <;> (try (split at hu'))
    all_goals first | omega | exact ap _ _ _ _ (by omega) hu hu'
  · unfold swapV at hu
    rw [hsv] at hu
    split at hu
    · exact h.foot _ _ _ hu hq
    · split at hu <;> exact h.foot _ _ _ hu hq
theorem OMF.keep {w w' : World} {B hi g n c : Nat} {M : List (List Int)} {vs : List Value} {S : Nat → Prop} (h : OMF w B hi g n c M vs) (k : Keep S w w') (hs : ∀ q, q < hi → ¬ S q) : OMF w' B hi g n c M vs :=
  ⟨⟨owns_keep h.om.out k (fun q hq => by simp [Value.ownBlock] at hq; subst hq; exact hs _ h.gl), h.om.len, fun r row hr => by
    obtain ⟨A', c', h1, h2⟩ := h.om.row r row hr
    exact ⟨A', c', h1, owns_keep h2 k (fun q hq => hs q (h.foot r _ q h1 hq).2)⟩, h.om.apart⟩, h.gl, h.foot⟩
theorem OMF.drewN {w : World} {B hi g n c : Nat} {M : List (List Int)} {vs : List Value} (h : OMF w B hi g n c M vs) (m : Nat) : OMF (w.drewN m) B hi g n c M vs := h.keep (drewN_keep (S := fun _ => False) w m) (fun _ _ h => h)
theorem OMF.setRow {w w' : World} {B hi g n c : Nat} {M : List (List Int)} {vs : List Value} (h : OMF w B hi g n c M vs) {r : Nat} {row new : List Int} {A' : Option Addr} {c' : Nat} (hr : M[r]? = some row) (hv : vs[r]? = some (Value.slice A' row.length c'))
    (hl : new.length = row.length) (hI : OI w' B A' row.length c' new) (k : Keep (fun q => (Value.slice A' row.length c').ownBlock = some q) w w') : OMF w' B hi g n c (M.set r new) vs :=
  ⟨h.om.setRow hr hv hl hI k, h.gl, h.foot⟩
def headI (hs : List Nat) : List Int := hs.map fun (x : Nat) => (x : Int)
def RedPost (p : Int) (B g n c cols : Nat) (M : List (List Int)) (w : World) (e : Ending) (w' : World) : Prop :=
  ∃ (A' : Option Addr) (c' : Nat) (vs' : List Value), e = .returned (.slice A' (elim p M cols).2.length c') ∧ OM w' B (some ⟨g, 0, none⟩) n c (elim p M cols).1 vs' ∧ OI w' w.heap.size A' (elim p M cols).2.length c' (headI (elim p M cols).2) ∧ Below B w w'
theorem elim_stay {p : Int} {M : List (List Int)} {j : Nat} (h : firstW (elim p M j).1 j ((elim p M j).1.length - (elim p M j).2.length) (elim p M j).2.length = none) : elim p M (j + 1) = elim p M j := by
  show stepE p (elim p M j).1 (elim p M j).2 j = _
  unfold stepE; rw [h]
theorem elim_go {p : Int} {M : List (List Int)} {j r : Nat} (h : firstW (elim p M j).1 j ((elim p M j).1.length - (elim p M j).2.length) (elim p M j).2.length = some r) :
    elim p M (j + 1) = (clearM p (chooseM p (elim p M j).1 r (elim p M j).2.length j) (elim p M j).2.length j, (elim p M j).2 ++ [j]) := by
  show stepE p (elim p M j).1 (elim p M j).2 j = _
  unfold stepE; rw [h]
theorem OMF.swapped {w : World} {B hi g n c : Nat} {M : List (List Int)} {vs : List Value} (h : OMF w B hi g n c M vs) {r t : Nat} (hr : r < n) (ht : t < n) {sR sT : Value} (hvR : vs[r]? = some sR) (hvT : vs[t]? = some sT) :
    OMF (((w.setCell ⟨g, r, none⟩ sT).setCell ⟨g, t, none⟩ sR).drew) B hi g n c (swapM M r t) (swapV vs r t) ∧ Keep (· = g) w (((w.setCell ⟨g, r, none⟩ sT).setCell ⟨g, t, none⟩ sR).drew) := by
  obtain ⟨h1, h2⟩ := World.ownsRow.stored h.om.out r sT
  obtain ⟨h3, h4⟩ := World.ownsRow.stored h1 t sR
  have e : (vs.set r sT).set t sR = swapV vs r t := by
    unfold swapV
    rw [List.getD_eq_getElem?_getD, List.getD_eq_getElem?_getD, hvR, hvT]; rfl
  rw [e] at h3
  have hk : Keep (· = g) w (((w.setCell ⟨g, r, none⟩ sT).setCell ⟨g, t, none⟩ sR).drew) := Keep.drew (((setCell_keep w ⟨g, r, none⟩ sT).trans (setCell_keep _ ⟨g, t, none⟩ sR)))
  exact ⟨h.swap hr ht h3 hk, hk⟩
theorem swapM_at {M : List (List Int)} {r t : Nat} (hr : r < M.length) (ht : t < M.length) : (swapM M r t)[t]? = M[r]? := by
  unfold swapM; rw [swap_get [] M r t t hr ht, if_pos rfl]
theorem getD_of {M : List (List Int)} {i : Nat} {row : List Int} (h : M[i]? = some row) : M.getD i [] = row := by rw [List.getD_eq_getElem?_getD, h]; rfl
theorem getD_congr {l l' : List (List Int)} {i j : Nat} (h : l[i]? = l'[j]?) : l.getD i [] = l'.getD j [] := by simp [List.getD_eq_getElem?_getD, h]
theorem clearM_top (p : Int) (M : List (List Int)) (top col : Nat) (h : top < M.length) : (clearM p M top col)[top]? = M[top]? := by
  rw [clearM_get _ _ _ _ _ h]; unfold clearRow; rw [if_pos rfl, List.getD_eq_getElem?_getD, List.getElem?_eq_getElem h]; rfl
theorem mix_top {p : Int} {M : List (List Int)} {top col k : Nat} (h : top < M.length) (hk : k ≤ M.length) : ((clearM p M top col).take k ++ M.drop k)[top]? = M[top]? := by
  by_cases hlt : top < k
  · rw [List.getElem?_append_left (by simp [clearM_len]; omega), List.getElem?_take, if_pos hlt, clearM_top _ _ _ _ h]
  · rw [List.getElem?_append_right (by simp [clearM_len]; omega), List.getElem?_drop]
    congr 1
    simp [clearM_len]; omega
set_option maxHeartbeats 800000 in
theorem reduceRows_any (p : Int) (B g n c l cols : Nat) (M : List (List Int)) (vs : List Value) (w : World) (h : OM w B (some ⟨g, 0, none⟩) n c M vs) (hp : primeB p = true) (hv : VM p l M) (hl : cols ≤ l) (hl9 : l ≤ 9) (hn1 : 1 ≤ n) (hn8 : n ≤ 24) :
    Calls Try.prog 77 #[.int .i64 p, .slice (some ⟨g, 0, none⟩) n c, .int .i64 (cols : Int)] w (RedPost p B g n c cols M w) := by
  have hpb := prime_ge hp
  have hg : B ≤ g ∧ g < w.heap.size := h.out.lt g rfl
  have hML := h.len
  have hinv := fun j => elim_inv hp hv j
  have HINV := Lib.hid hinv
  have HP := Lib.hid hp
  have HF := Lib.hid (OMF.mk h hg.2 h.foot)
  have HML := Lib.hid hML
  clear h hinv hp hv hML
  go_enter Try.func77, Try.ntmps77
  go_wp2_with (fail)
  go_loopw [7, 14] (fun v i wr => ∃ (j : Nat) (A' : Option Addr) (c' : Nat) (vs' : List Value), j ≤ cols ∧ i = .int .i64 j ∧ v = .slice A' (elim p M j).2.length c' ∧ OMF wr B w.heap.size g n c (elim p M j).1 vs' ∧ OI wr w.heap.size A' (elim p M j).2.length c' (headI (elim p M j).2) ∧ Below B w wr) (fun _ i _ => cols - (intOf i).toNat)
  case atStart => exact ⟨0, _, _, _, by omega, rfl, rfl, HF.out, World.ownsRow_nil _ _ _ _, Below.refl _ _⟩
  case round =>
    obtain ⟨j, A', c', vs', hj, rfl, rfl, hom, hch, hbel⟩ := hrel
    obtain ⟨wo, rfl⟩ : ∃ wo : World, wo = wr := ⟨_, rfl⟩
    obtain ⟨hi1, hi2, hi3, hi4⟩ := HINV.out j
    obtain ⟨N, hN⟩ : ∃ N, (elim p M j).1 = N := ⟨_, rfl⟩
    obtain ⟨hs, hHS⟩ : ∃ hs, (elim p M j).2 = hs := ⟨_, rfl⟩
    obtain ⟨top, htop⟩ : ∃ top, hs.length = top := ⟨_, rfl⟩
    rw [hN, HML.out] at hi1
    rw [hN] at hi2 hom
    rw [hHS, htop] at hch hi3
    rw [hHS] at hi4
    rw [HML.out] at hi3
    simp only [hHS, htop]
    by_cases hlt : j < cols
    · obtain ⟨br, hRA⟩ := hom.om.ra
      have HRA := Lib.hid hRA
      have HO := Lib.hid hom
      have HCH := Lib.hid hch
      have HB := Lib.hid hbel
      have HV := Lib.hid hi2
      have HN := Lib.hid hN
      have HHS := Lib.hid hHS
      have HT := Lib.hid htop
      have HNL := Lib.hid hi1
      clear hRA hom hch hbel hi2 hN hHS htop hi1
      go_wp2_with (fail)
      refine (firstRowWith_any _ n c br 0 N j top _ HRA.out (fun row hr => by rw [(HV.out row hr).1]; omega) hi3 (by omega)).mono ?_
      rintro e w' ⟨x, rfl, hx, rfl⟩
      rcases hx with ⟨rfl, hnone⟩ | ⟨r, rfl, hrn, hsome⟩
      · have HS := Lib.hid (elim_stay (p := p) (M := M) (j := j) (by rw [HN.out, HHS.out, HT.out]; exact hnone))
        clear hnone
        go_wp2_with (fail)
        go_roundw
        case rel => exact ⟨j + 1, A', c', vs', by omega, by go_num, by rw [HS.out, HHS.out, HT.out], by rw [HS.out, HN.out]; exact HO.out, by rw [HS.out, HHS.out, HT.out]; exact HCH.out, HB.out⟩
        case measure => simp [intOf]; omega
      · have HG := Lib.hid (elim_go (p := p) (M := M) (j := j) (r := r) (by rw [HN.out, HHS.out, HT.out]; exact hsome))
        obtain ⟨hf1, hf2, hf3, _⟩ := firstW_some hsome
        have hNL := HNL.out
        rw [HN.out, HHS.out, HT.out] at HG
        have htn : top < n := by omega
        rw [hNL] at hrn
        obtain ⟨rowR, AR, cR, hmR, hvR, hcR, hIR, hfR⟩ := HO.out.cell hrn
        obtain ⟨rowT, AT, cT, hmT, hvT, hcT, hIT, hfT⟩ := HO.out.cell htn
        have HG2 := Lib.hid HG
        have HF3 := Lib.hid hf3
        have HMR := Lib.hid hmR
        have HMT := Lib.hid hmT
        have HVR := Lib.hid hvR
        have HVT := Lib.hid hvT
        have HIR := Lib.hid hIR
        have HIT := Lib.hid hIT
        clear HG hf3 hmR hmT hvR hvT hIR hIT hsome hNL
        obtain ⟨v2, hv2⟩ : ∃ v2, (wo.setCell ⟨g, r, none⟩ (.slice AT rowT.length cT)).cell? ⟨g, top, none⟩ = some v2 := by
          by_cases e : r = top
          · subst e; exact ⟨_, World.cell?_setCell_same _ _ _ hcR⟩
          · exact ⟨_, (World.cell?_setCell_other _ _ _ _ (fun h => e (congrArg Addr.off h))).trans hcT⟩
        go_wp2_with (fail)
        go_region
        go_wp2_with (fail)
        obtain ⟨hO2, hK2⟩ := HO.out.swapped hrn htn HVR.out HVT.out
        obtain ⟨w2, hw2⟩ : ∃ w2, w2 = (((wo.setCell ⟨g, r, none⟩ (.slice AT rowT.length cT)).setCell ⟨g, top, none⟩ (.slice AR rowR.length cR)).drew) := ⟨_, rfl⟩
        rw [← hw2] at hO2 hK2 ⊢
        have HK2 := Lib.hid (hK2.mono (T := fun q => B ≤ q ∧ q < w.heap.size) (fun q _ hq => by rw [hq]; exact hg))
        clear hw2 hv2 hK2 hcR hcT hfR hfT
        obtain ⟨row2, A2, c2, hm2, hv2, hc2, hI2, hf2⟩ := hO2.cell htn
        have hVM2 := HV.out.swap (i := r) (j := top) (by rw [HNL.out]; exact hrn) (by rw [HNL.out]; exact htn)
        obtain ⟨hrl2, hrv2⟩ := hVM2 row2 (List.mem_of_getElem? hm2)
        rw [hrl2] at hv2 hc2 hI2
        obtain ⟨b2, hIA2⟩ := hI2.ia
        obtain ⟨x, hx, hxc⟩ := hIA2.cell j (by omega)
        obtain rfl := hIA2.adr (by omega)
        rw [Nat.zero_add] at hxc
        have hxn := hrv2 x (List.mem_of_getElem? hx)
        have hat2 : at2 (swapM N r top) top j = x := at2_of hm2 hx
        have hx0 : x ≠ 0 := by
          rw [← hat2]
          have e : (swapM N r top)[top]? = N[r]? := swapM_at (by rw [HNL.out]; exact hrn) (by rw [HNL.out]; exact htn)
          have e2 : at2 (swapM N r top) top j = at2 N r j := by unfold at2; rw [getD_congr e]
          rw [e2]; exact HF3.out
        obtain ⟨u, hu⟩ : ∃ u, invM p x = u := ⟨_, rfl⟩
        have hnb : numBack p x = u := by unfold numBack; rw [if_pos ⟨hxn, hx0⟩, hu]
        have hun : numB p u = true := by rw [← hu]; exact numB_mk HP.out (inv_bd HP.out).1 (inv_bd HP.out).2
        have hcalc := fun m => quiet_same (n := m) (w := w2) (implNumBack p x (w2.drewN m))
        rw [hnb] at hcalc
        have HCA := Lib.hid hcalc
        have HM3 := Lib.hid (show (swapM N r top).set top (scaleRow p u row2) = chooseM p N r top j by unfold chooseM; rw [hat2, hu, getD_of hm2])
        have HO2 := Lib.hid hO2
        have HM2 := Lib.hid hm2
        have HV2 := Lib.hid hv2
        have HI2 := Lib.hid hI2
        have HRV2 := Lib.hid hrv2
        have HRL2 := Lib.hid hrl2
        have HUN := Lib.hid hun
        clear hcalc hO2 hm2 hv2 hI2 hrv2 hrl2 hIA2 hx hxn hat2 hx0 hu hnb hun hVM2
        refine wp_quiet_tail 14 (by kernel_rfl) (by kernel_rfl) ?_
        simp only [List.take_succ_cons, List.take_zero, List.drop_succ_cons, List.drop_zero]
        repeat (go_big_quiet_step ((go_at_call 84; exact HCA.out _)))
        refine wpQuiet_nil ?_
        intro _ hw'
        obtain ⟨nq, hw''⟩ := hw'
        subst hw''
        go_wp2_with (fail)
        refine (multiplyRow_any p u B _ l c2 row2 _ (owns_keep HI2.out (drewN_keep (S := fun _ => False) _ _) (fun _ _ h => h)) HUN.out HRV2.out (by omega)).mono ?_
        rintro e w3 ⟨rfl, hI3, hK3⟩
        have hO3 := (HO2.out.drewN nq).setRow HM2.out (by rw [HRL2.out]; exact HV2.out) (scaleRow_len p u row2) (by rw [HRL2.out]; exact hI3) (by rw [HRL2.out]; exact hK3)
        rw [HM3.out] at hO3
        have HO3 := Lib.hid hO3
        have HK3 := Lib.hid ((HK2.out.drewN nq).trans (hK3.mono (T := fun q => B ≤ q ∧ q < w.heap.size) (fun q _ hq => HO2.out.foot top _ q HV2.out hq)))
        obtain ⟨M3, hM3⟩ : ∃ M3, chooseM p N r top j = M3 := ⟨_, rfl⟩
        have HL3 := Lib.hid (show M3.length = n by rw [← hM3, chooseM_len, HNL.out])
        have HV3 := Lib.hid (show VM p l M3 by rw [← hM3]; exact HV.out.choose HP.out (by rw [HNL.out]; exact hrn) (by rw [HNL.out]; exact htn))
        rw [hM3] at HO3 HG2
        clear hO3 hI3 hK3 hM3 HCA HM3 HO2 HM2 HV2 HI2 HRV2 HRL2 HUN HK2 hc2 hxc hf2
        go_wp2_with (fail)
        go_loopw [56] (fun i wi => ∃ k : Nat, k ≤ n ∧ i = .int .i64 k ∧ OMF wi B w.heap.size g n c ((clearM p M3 top j).take k ++ M3.drop k) (swapV vs' r top) ∧ Keep (fun q => B ≤ q ∧ q < w.heap.size) wo wi) (fun i _ => n - (intOf i).toNat)
        case atStart => exact ⟨0, by omega, rfl, by simpa using HO3.out, HK3.out⟩
        case round =>
          obtain ⟨k, hk, rfl, hom, hkp⟩ := hrel
          by_cases hlk : k < n
          · have hL3 := HL3.out
            obtain ⟨row, Ai, ci, hmi, hvi, hci, hIi, hfi⟩ := hom.cell hlk
            obtain ⟨rowt, At, ct, hmt, hvt, hct, hIt, hft⟩ := hom.cell htn
            rw [mix_get _ _ _ (clearM_len p M3 top j) (by rw [clearM_len]; omega)] at hmi
            rw [mix_top (by omega) (by omega)] at hmt
            obtain ⟨hrl, hrv⟩ := HV3.out row (List.mem_of_getElem? hmi)
            obtain ⟨hrlt, hrvt⟩ := HV3.out rowt (List.mem_of_getElem? hmt)
            rw [hrl] at hvi hci hIi
            rw [hrlt] at hvt hct hIt
            by_cases hkt : k = top
            · have hq : ((k : Int) != (top : Int)) = false := eqInt hkt
              have HS := Lib.hid (show ((clearM p M3 top j).take k ++ M3.drop k) = ((clearM p M3 top j).take (k + 1) ++ M3.drop (k + 1)) by
                have h1 := set_step (clearM p M3 top j) M3 k row (clearM_len _ _ _ _) (by rw [hkt, clearM_top _ _ _ _ (by omega), ← hkt]; exact hmi)
                rw [← h1]
                refine (List.ext_getElem? fun q => ?_)
                by_cases e : q = k
                · subst e; rw [List.getElem?_set_self (by simp [clearM_len]; omega), mix_get _ _ _ (clearM_len p M3 top j) (by rw [clearM_len]; omega)]; exact hmi
                · rw [List.getElem?_set_ne (fun e' => e e'.symm)])
              have HO := Lib.hid hom
              clear hmi hvi hIi hmt hvt hIt hrl hrv hrlt hrvt hkt hL3 hom
              go_wp2_with (fail)
              go_roundw
              case rel => exact ⟨k + 1, by omega, by go_num, by rw [← HS.out]; exact HO.out, hkp⟩
              case measure => simp [intOf]; omega
            · have hq : ((k : Int) != (top : Int)) = true := neInt hkt
              obtain ⟨bi, hIAi⟩ := hIi.ia
              obtain ⟨bt, hIAt⟩ := hIt.ia
              obtain ⟨x, hx, hxc⟩ := hIAi.cell j (by omega)
              have hxn := hrv x (List.mem_of_getElem? hx)
              have hat : at2 M3 k j = x := at2_of hmi hx
              have hadr := hIAi.adr (by omega)
              have hadt := hIAt.adr (by omega)
              subst hadr hadt
              rw [Nat.zero_add] at hxc
              have hbne : bt ≠ bi := by
                have ap : Apart (Value.slice (some ⟨bt, 0, none⟩) l ct) (Value.slice (some ⟨bi, 0, none⟩) l ci) := by
                  rcases Nat.lt_or_gt_of_ne hkt with hh | hh
                  · rcases hom.om.apart k top _ _ hh hvi hvt with h1 | h1
                    · simp [Value.ownBlock] at h1
                    · exact .inr (fun e => h1 e.symm)
                  · exact hom.om.apart top k _ _ hh hvt hvi
                rcases ap with h1 | h1
                · simp [Value.ownBlock] at h1
                · intro e; exact h1 (by simp [Value.ownBlock, e])
              have HSR := Lib.hid (show (clearM p M3 top j)[k]? = some (subRow p x row rowt) by
                rw [clearM_get _ _ _ _ _ (by omega)]; unfold clearRow; rw [if_neg hkt, hat, getD_of hmi, getD_of hmt])
              have HO := Lib.hid hom
              have HMI := Lib.hid hmi
              have HVI := Lib.hid hvi
              have HRL := Lib.hid hrl
              have HII := Lib.hid hIi
              have HIT := Lib.hid hIAt
              have HXN := Lib.hid hxn
              have HRV := Lib.hid hrv
              have HRVT := Lib.hid hrvt
              have HRLT := Lib.hid hrlt
              clear hom hmi hmt hvi hvt hrl hrv hrlt hrvt hIi hIt hIAi hIAt hx hxn hat hL3 hkt
              go_wp2_with (fail)
              refine wp_quiet_tail 10 (by kernel_rfl) (by kernel_rfl) ?_
              simp only [List.take_succ_cons, List.take_zero, List.drop_succ_cons, List.drop_zero]
              repeat (go_big_quiet_step (fail))
              refine wpQuiet_nil ?_
              intro _ hw'
              obtain ⟨nz, hw''⟩ := hw'
              subst hw''
              go_wp2_with (fail)
              refine (takeRow_any p x B _ l ci row _ ct bt 0 rowt _ (owns_keep HII.out (drewN_keep (S := fun _ => False) _ _) (fun _ _ h => h)) (HIT.out.drewN ⟨nz, rfl⟩) (fun q hq => by simp [Value.ownBlock] at hq; omega) HXN.out HRV.out HRVT.out (by omega)).mono ?_
              rintro e w5 ⟨rfl, hI5, hK5⟩
              have hO5 := (HO.out.drewN nz).setRow (by rw [mix_get _ _ _ (clearM_len p M3 top j) (by rw [clearM_len, HL3.out]; omega)]; exact HMI.out) (by rw [HRL.out]; exact HVI.out) (subRow_len p x row rowt (by rw [HRL.out, HRLT.out])) (by rw [HRL.out]; exact hI5) (by rw [HRL.out]; exact hK5)
              rw [set_step _ _ k _ (clearM_len _ _ _ _) HSR.out] at hO5
              have HO5 := Lib.hid hO5
              have HK5 := Lib.hid ((hkp.drewN nz).trans (hK5.mono (T := fun q => B ≤ q ∧ q < w.heap.size) (fun q _ hq => HO.out.foot k _ q HVI.out hq)))
              clear hO5 hI5 hK5 hkp
              go_wp2_with (fail)
              go_roundw
              case rel => exact ⟨k + 1, by omega, by go_num, HO5.out, HK5.out⟩
              case measure => simp [intOf]; omega
          · obtain rfl : k = n := by omega
            have e : (clearM p M3 top j).take k ++ M3.drop k = clearM p M3 top j := by
              rw [List.take_of_length_le (by rw [clearM_len, HL3.out]; omega), List.drop_of_length_le (by rw [HL3.out]; omega)]; simp
            rw [e] at hom
            have HO := Lib.hid hom
            have HKP := Lib.hid hkp
            have HCW := Lib.hid (show OI wr w.heap.size A' top c' (headI hs) from owns_keep HCH.out hkp (fun q hq hs => by have := (HCH.out.lt q hq).1; omega))
            have HBW := Lib.hid (HB.out.trans (hkp.below (B := B) (by have := (HO.out.om.out.lt g rfl).1; have := HB.out.size; omega) (fun q hq => hq.1)))
            have hsw := HBW.out.size
            clear e hom hkp
            go_wp2_with (at_builtin; refine wpList_app_int rfl (.tmp 76) (.tmp 78) rfl w.heap.size A' top c' _ rfl (HCW.out.alloc _) (j : Int) _ _ rfl ?_ (by omega) ?_ ?_)
            · simp
            · simp; omega
            · intro A6 c6 w6 hI6 hK6
              have HI6 := Lib.hid hI6
              have hst : ∀ q, (Value.slice A' top c').ownBlock = some q → w.heap.size ≤ q := fun q hq => ((HCW.out).lt q hq).1
              have HO6 := Lib.hid ((HO.out.keep ((Keep.refl (fun _ => False) _).alloc (.cells #[.int .i64 (j : Int)] 3)) (fun _ _ h => h)).keep hK6 (fun q hq hs => by have := hst q hs; omega))
              have HB6 := Lib.hid ((HBW.out.alloc (by omega) (.cells #[.int .i64 (j : Int)] 3)).trans (hK6.below (B := B) (by simp; omega) (fun q hq => by have := hst q hq; omega)))
              clear hI6 hK6 hst
              go_wp2_with (fail)
              go_roundw
              case rel => exact ⟨j + 1, A6, c6, swapV vs' r top, by omega, by go_num, by rw [HG2.out]; simp [HT.out], by rw [HG2.out]; exact HO6.out, by rw [HG2.out]; simpa [headI, HT.out] using HI6.out, HB6.out⟩
              case measure => simp [intOf]; omega
    · obtain rfl : j = cols := by omega
      have HO := Lib.hid hom
      have HCH := Lib.hid hch
      have HN := Lib.hid hN
      have HHS := Lib.hid hHS
      have HT := Lib.hid htop
      clear hom hch hN hHS htop
      go_wp2_with (fail)
      go_ret
      exact ⟨A', c', vs', by rw [HHS.out, HT.out]; rfl, by rw [HN.out]; exact HO.out.om, by rw [HHS.out, HT.out]; exact HCH.out, hbel⟩
end Go.Proofs.Ytcjpjcigjljplaa
