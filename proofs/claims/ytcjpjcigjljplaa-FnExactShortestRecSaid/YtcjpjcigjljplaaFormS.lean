/-
  The contract of the model's l1Form.
-/
import Derived.Test.YtcjpjcigjljplaaCpyS
namespace Go.Proofs.Ytcjpjcigjljplaa
open Go.RowKit
/-- the form and the columns of the chosen rows -/
def FormPost (p : Int) (l : Nat) (M : List (List Int)) (w : World) (e : Ending) (w' : World) : Prop :=
  ∃ (Ao : Option Addr) (co : Nat) (vs : List Value) (Ah : Option Addr) (ch : Nat), e = .returned (.tuple #[.slice Ao M.length co, .slice Ah (elim p M l).2.length ch]) ∧ OM w' w.heap.size Ao M.length co (elim p M l).1 vs ∧ OI w' w.heap.size Ah (elim p M l).2.length ch (headI (elim p M l).2) ∧ Below w.heap.size w w'
theorem OMF.cellAt {w : World} {B hi g n c l : Nat} {M : List (List Int)} {vs : List Value} {p : Int} (h : OMF w B hi g n c M vs) (hv : VM p l M) {r : Nat} (hr : r < n) :
    ∃ (row : List Int) (b' c' : Nat), M[r]? = some row ∧ row.length = l ∧ (∀ x ∈ row, numB p x = true) ∧ (1 ≤ l → vs[r]? = some (Value.slice (some ⟨b', 0, none⟩) l c') ∧ w.cell? ⟨g, r, none⟩ = some (.slice (some ⟨b', 0, none⟩) l c') ∧ OI w B (some ⟨b', 0, none⟩) l c' row ∧ IA w (some ⟨b', 0, none⟩) l b' 0 row) ∧ w.frozen? ⟨g, r, none⟩ = false := by
  obtain ⟨row, A', c', h1, h2, h3, h4, h5⟩ := h.cell hr
  obtain ⟨h6, h7⟩ := hv row (List.mem_of_getElem? h1)
  rw [h6] at h2 h3 h4
  obtain ⟨b', hia⟩ := h4.ia
  refine ⟨row, b', c', h1, h6, h7, fun hl => ?_, h5⟩
  obtain rfl := hia.adr (by omega)
  exact ⟨h2, h3, h4, hia⟩
theorem OMF.apart {w : World} {B hi g n c : Nat} {M : List (List Int)} {vs : List Value} (h : OMF w B hi g n c M vs) {i j : Nat} (hij : i ≠ j) {l l' ci cj bi bj : Nat} (hi' : vs[i]? = some (Value.slice (some ⟨bi, 0, none⟩) l ci)) (hj : vs[j]? = some (Value.slice (some ⟨bj, 0, none⟩) l' cj)) : bi ≠ bj := by
  intro e
  subst e
  rcases Nat.lt_or_gt_of_ne hij with hh | hh
  · rcases h.om.apart i j _ _ hh hi' hj with h1 | h1
    · simp [Value.ownBlock] at h1
    · exact h1 rfl
  · rcases h.om.apart j i _ _ hh hj hi' with h1 | h1
    · simp [Value.ownBlock] at h1
    · exact h1 rfl
theorem subRow_full {p t : Int} {xs ys : List Int} {n : Nat} (hx : xs.length = n) (hy : ys.length = n) : (subRow p t xs ys).length = n := by rw [subRow_len _ _ _ _ (by omega), hx]
theorem mixDone {α : Type} {xs ys : List α} {n : Nat} (hx : xs.length = n) (hy : ys.length = n) : xs.take n ++ ys.drop n = xs := by
  rw [List.take_of_length_le (by omega), List.drop_of_length_le (by omega)]; simp
theorem mixLen {xs ys : List Int} {n q : Nat} (hx : xs.length = n) (hy : ys.length = n) (hq : q ≤ n) : (xs.take q ++ ys.drop q).length = n := by simp; omega
theorem set_same {α : Type} {l : List α} {i : Nat} {a : α} (h : l[i]? = some a) : l.set i a = l := by
  refine List.ext_getElem? fun q => ?_
  by_cases e : q = i
  · subst e; rw [List.getElem?_set_self (List.getElem?_eq_some_iff.1 h).1, h]
  · rw [List.getElem?_set_ne (fun e' => e e'.symm)]
/-- a row as a part of it is changed: still valid rows -/
theorem VM.mixRow {p : Int} {l q i : Nat} {M : List (List Int)} {xs ys : List Int} (h : VM p l M) (hx : xs.length = l) (hy : ys.length = l) (hq : q ≤ l) (hvx : ∀ x ∈ xs, numB p x = true) (hvy : ∀ y ∈ ys, numB p y = true) : VM p l (M.set i (xs.take q ++ ys.drop q)) :=
  h.set (mixLen hx hy hq) (fun z hz => by
    rcases List.mem_append.1 hz with hz | hz
    · exact hvx z (List.mem_of_mem_take hz)
    · exact hvy z (List.mem_of_mem_drop hz))
theorem OMF.swapped' {w : World} {B hi g n c : Nat} {M : List (List Int)} {vs : List Value} (h : OMF w B hi g n c M vs) {r t : Nat} (hr : r < n) (ht : t < n) {sR sT : Value} (hvR : vs[r]? = some sR) (hvT : vs[t]? = some sT) :
    OMF ((w.setCell ⟨g, r, none⟩ sT).setCell ⟨g, t, none⟩ sR) B hi g n c (swapM M r t) (swapV vs r t) ∧ Keep (· = g) w ((w.setCell ⟨g, r, none⟩ sT).setCell ⟨g, t, none⟩ sR) := by
  obtain ⟨h1, _⟩ := World.ownsRow.stored h.om.out r sT
  obtain ⟨h3, _⟩ := World.ownsRow.stored h1 t sR
  have e : (vs.set r sT).set t sR = swapV vs r t := by
    unfold swapV
    rw [List.getD_eq_getElem?_getD, List.getD_eq_getElem?_getD, hvR, hvT]; rfl
  rw [e] at h3
  have hk : Keep (· = g) w ((w.setCell ⟨g, r, none⟩ sT).setCell ⟨g, t, none⟩ sR) := (setCell_keep w ⟨g, r, none⟩ sT).trans (setCell_keep _ ⟨g, t, none⟩ sR)
  exact ⟨h.swap hr ht h3 hk, hk⟩
theorem VM.mixM {p : Int} {l top col k : Nat} {M : List (List Int)} (hp : primeB p = true) (h : VM p l M) (ht : top < M.length) : VM p l ((clearM p M top col).take k ++ M.drop k) := fun row hr => by
  rcases List.mem_append.1 hr with hr | hr
  · exact h.clear hp ht row (List.mem_of_mem_take hr)
  · exact h row (List.mem_of_mem_drop hr)
theorem mix_stay {p : Int} {top col k : Nat} {M : List (List Int)} (ht : top < M.length) (hk : k < M.length) (e : k = top) : (clearM p M top col).take k ++ M.drop k = (clearM p M top col).take (k + 1) ++ M.drop (k + 1) := by
  have hg : M[k]? = some (M[k]'hk) := List.getElem?_eq_getElem hk
  have h1 := set_step (clearM p M top col) M k _ (clearM_len _ _ _ _) (by rw [e, clearM_top _ _ _ _ ht, ← e]; exact hg)
  rw [← h1]
  exact (set_same (by rw [mix_get _ _ _ (clearM_len p M top col) (by rw [clearM_len]; exact hk)]; exact hg)).symm
/-- one store into a row -/
theorem OMF.store {w : World} {B hi g n c : Nat} {M : List (List Int)} {vs : List Value} (h : OMF w B hi g n c M vs) {r l b' c' q : Nat} {row : List Int} (hr : M[r]? = some row) (hl : row.length = l) (hv : vs[r]? = some (Value.slice (some ⟨b', 0, none⟩) l c')) (hI : OI w B (some ⟨b', 0, none⟩) l c' row) (x : Int) :
    OMF (w.setCell ⟨b', q, none⟩ (.int .i64 x)) B hi g n c (M.set r (row.set q x)) vs ∧ Keep (fun q => B ≤ q ∧ q < hi) w (w.setCell ⟨b', q, none⟩ (.int .i64 x)) := by
  subst hl
  obtain ⟨h1, _⟩ := World.ownsRow.stored hI q (.int .i64 x)
  rw [ints_set] at h1
  have hk := setCell_keep w ⟨b', q, none⟩ (.int .i64 x)
  exact ⟨h.setRow hr hv (by simp) h1 (hk.mono (fun y _ hy => by rw [hy]; rfl)), hk.mono (fun y _ hy => by have := h.foot r _ b' hv rfl; rw [hy]; exact this)⟩
set_option maxRecDepth 100000 in
set_option maxHeartbeats 1600000 in
theorem specForm (p : Int) (A : Option Addr) (n c b o l : Nat) (M : List (List Int)) (w : World) (h : RA w A n b o M) (hp : primeB p = true) (hv : VM p l M) (hn1 : 1 ≤ n) (hn8 : n ≤ 24) (hl1 : 1 ≤ l) (hl9 : l ≤ 9) :
    Calls Try.prog 76 #[.int .i64 p, .slice A n c] w (FormPost p l M w) := by
  have hpb := prime_ge hp
  have hML := h.len
  have hinv := fun j => elim_inv hp hv j
  have HRW := Lib.hid (show ∀ row ∈ M, row.length = l from fun row hr => (hv row hr).1)
  have HINV := Lib.hid hinv
  have HP := Lib.hid hp
  have HML := Lib.hid hML
  have H := Lib.hid h
  clear h hinv hp hv hML
  go_enter Try.func76, Try.ntmps76
  go_wp2_with (fail)
  refine (specCopy A n c b o l M _ H.out hn8 hl1 hl9 HRW.out).mono ?_
  rintro e w1 ⟨A1, c1, vs, rfl, hO, hB⟩
  obtain ⟨g, hg⟩ := hO.addr hn1
  subst hg
  have hgl : w.heap.size ≤ g ∧ g < w1.heap.size := hO.out.lt g rfl
  have HF := Lib.hid (OMF.mk hO hgl.2 hO.foot)
  have hs1 := hB.size
  clear hO
  go_wp2_with (fail)
  go_loopw [7, 8, 9] (fun v t i wr => ∃ (j : Nat) (A' : Option Addr) (c' : Nat) (vs' : List Value), j ≤ l ∧ i = .int .i64 j ∧ t = .int .i64 ((elim p M j).2.length : Nat) ∧ v = .slice A' (elim p M j).2.length c' ∧ OMF wr w.heap.size w1.heap.size g n c1 (elim p M j).1 vs' ∧ OI wr w1.heap.size A' (elim p M j).2.length c' (headI (elim p M j).2) ∧ Below w.heap.size w wr ∧ w1.heap.size ≤ wr.heap.size) (fun _ _ i _ => l - (intOf i).toNat)
  case atStart => exact ⟨0, _, _, _, by omega, rfl, rfl, rfl, HF.out.keep ((Keep.refl (fun _ => False) w1).alloc _) (fun _ _ h => h), OI.empty w1, hB.alloc hs1 _, by simp⟩
  case round =>
    obtain ⟨j, A', c', vs', hj, rfl, rfl, rfl, hom, hch, hbel, hszo⟩ := hrel
    obtain ⟨wo, rfl⟩ : ∃ wo : World, wo = wr := ⟨_, rfl⟩
    obtain ⟨hi1, hi2, hi3, hi4⟩ := HINV.out j
    obtain ⟨N, hN⟩ : ∃ N, (elim p M j).1 = N := ⟨_, rfl⟩
    obtain ⟨hs, hHS⟩ : ∃ hs, (elim p M j).2 = hs := ⟨_, rfl⟩
    obtain ⟨top, htop⟩ : ∃ top, hs.length = top := ⟨_, rfl⟩
    rw [hN, HML.out] at hi1
    rw [hN] at hi2 hom
    rw [hHS, htop] at hch hi3
    rw [hHS] at hi4
    rw [HML.out] at hi3
    simp only [hHS, htop]
    obtain ⟨r0, b0, c0, _, _, _, h0x, _⟩ := hom.cellAt hi2 (r := 0) (by omega)
    have hc0 := (h0x hl1).2.1
    have HO := Lib.hid hom
    have HCH := Lib.hid hch
    have HB := Lib.hid hbel
    have HV := Lib.hid hi2
    have HN := Lib.hid hN
    have HHS := Lib.hid hHS
    have HT := Lib.hid htop
    have HNL := Lib.hid hi1
    have hlo : 0 < n := by omega
    clear hom hch hbel hi2 hN hHS htop hi1 h0x
    by_cases hlt : j < l
    · go_wp2_with (fail)
      go_loop [10] (fun i => ∃ k : Nat, top ≤ k ∧ k ≤ n ∧ i = .int .i64 k ∧ Hid (∀ q, top ≤ q → q < k → at2 N q j = 0)) (fun i => n - (intOf i).toNat)
      case atStart => exact ⟨top, Nat.le_refl _, by omega, rfl, fun q h1 h2 => absurd h2 (by omega)⟩
      case round =>
        obtain ⟨k, hk0, hk, rfl, hz⟩ := hrel
        by_cases hlk : k < n
        · obtain ⟨row, bk, ck, hmk, hrl, hrv, hkx, _⟩ := HO.out.cellAt HV.out hlk
          obtain ⟨hvk, hck, hIk, hIA⟩ := hkx hl1
          obtain ⟨x, hx, hxc⟩ := hIA.cell j hlt
          rw [Nat.zero_add] at hxc
          have HAT := Lib.hid (at2_of hmk hx)
          have HVK := Lib.hid hvk
          clear hkx hmk hrl hrv hvk hIk hIA hx
          by_cases hx0 : x = 0
          · have hb : (x == 0) = true := by simp [hx0]
            have HX0 := Lib.hid hx0
            clear hx0
            go_wp2_with (fail)
            go_round
            case rel => exact ⟨k + 1, by omega, by omega, by go_num, fun q h1 h2 => if e : q = k then by rw [e, HAT.out, HX0.out] else hz.out q h1 (by omega)⟩
            case measure => simp [intOf]; omega
          · have hb : (x == 0) = false := by simp [hx0]
            have hsome : firstW N j (N.length - top) top = some k := firstW_is hk0 (by rw [HNL.out]; omega) (by rw [HAT.out]; exact hx0) hz.out
            have HG := Lib.hid (elim_go (p := p) (M := M) (j := j) (r := k) (by rw [HN.out, HHS.out, HT.out]; exact hsome))
            have HX0 := Lib.hid hx0
            clear hx0 hsome
            have hqn : ((k : Int) == (n : Int)) = false := by rw [beq_eq_false_iff_ne]; omega
            have htn : top < n := by omega
            obtain ⟨rowT, bT, cT, hmT, hrlT, hrvT, hTx, hfT⟩ := HO.out.cellAt HV.out htn
            obtain ⟨hvT, hcT, hIT, hIAT⟩ := hTx hl1
            have hfk := World.ownsRow.frozenAt HO.out.om.out k
            obtain ⟨hO2, hK2⟩ := HO.out.swapped' hlk htn HVK.out hvT
            obtain ⟨v2, hv2⟩ : ∃ v2, (wo.setCell ⟨g, k, none⟩ (.slice (some ⟨bT, 0, none⟩) l cT)).cell? ⟨g, top, none⟩ = some v2 := by
              by_cases e : k = top
              · subst e; exact ⟨_, World.cell?_setCell_same _ _ _ hck⟩
              · exact ⟨_, (World.cell?_setCell_other _ _ _ _ (fun h => e (congrArg Addr.off h))).trans hcT⟩
            have HO2 := Lib.hid hO2
            have HK2 := Lib.hid hK2
            clear hO2 hK2 hmT hrlT hrvT hTx hvT hIT hIAT
            -- up to the inverse: the rows are exchanged
            obtain ⟨w2, hw2⟩ : ∃ w2, w2 = (wo.setCell ⟨g, k, none⟩ (.slice (some ⟨bT, 0, none⟩) l cT)).setCell ⟨g, top, none⟩ (.slice (some ⟨bk, 0, none⟩) l ck) := ⟨_, rfl⟩
            rw [← hw2] at HO2 HK2
            have HVM2 := Lib.hid (HV.out.swap (i := k) (j := top) (by rw [HNL.out]; exact hlk) (by rw [HNL.out]; exact htn))
            obtain ⟨row2, b2, c2, hm2, hrl2, hrv2, h2x, hf2⟩ := HO2.out.cellAt HVM2.out htn
            obtain ⟨hv2', hc2, hI2, hIA2⟩ := h2x hl1
            obtain ⟨x2, hx2, hxc2⟩ := hIA2.cell j hlt
            rw [Nat.zero_add] at hxc2
            have hxn := hrv2 x2 (List.mem_of_getElem? hx2)
            have hat2 : at2 (swapM N k top) top j = x2 := at2_of hm2 hx2
            have hx20 : x2 ≠ 0 := by
              rw [← hat2]
              have e2 : at2 (swapM N k top) top j = at2 N k j := by unfold at2; rw [getD_congr (swapM_at (by rw [HNL.out]; exact hlk) (by rw [HNL.out]; exact htn))]
              rw [e2, HAT.out]; exact HX0.out
            obtain ⟨u, hu⟩ : ∃ u, invM p x2 = u := ⟨_, rfl⟩
            have HUN := Lib.hid (show numB p u = true by rw [← hu]; exact numB_mk HP.out (inv_bd HP.out).1 (inv_bd HP.out).2)
            have HXN := Lib.hid (numB_true hxn).2
            have HM3 := Lib.hid (show (swapM N k top).set top (scaleRow p u row2) = chooseM p N k top j by unfold chooseM; rw [hat2, hu, getD_of hm2])
            have HU := Lib.hid hu
            have HM2 := Lib.hid hm2
            have HRV2 := Lib.hid hrv2
            have HRL2 := Lib.hid hrl2
            clear hm2 hrl2 hrv2 h2x hv2' hI2 hIA2 hx2 hxn hat2 hx20 hu
            rw [hw2] at hc2 hxc2
            go_wp2_with (fail)
            rw [← hw2]
            refine (specBack p x2 _ HP.out HXN.out.1 HXN.out.2).mono ?_
            rintro e wb ⟨rfl, rfl⟩
            rw [HU.out]
            have HKW := Lib.hid (HK2.out.mono (T := fun q => w.heap.size ≤ q ∧ q < w1.heap.size) (fun q _ hq => by rw [hq]; exact hgl))
            clear hw2 hv2 hck hcT hf2 hfk hfT hc2 hxc2 hxc HX0 HAT HVK HK2 HU
            go_wp2_with (fail)
            go_loopw [13] (fun i wi => ∃ q : Nat, q ≤ l ∧ i = .int .i64 q ∧ OMF wi w.heap.size w1.heap.size g n c1 ((swapM N k top).set top ((scaleRow p u row2).take q ++ row2.drop q)) (swapV vs' k top) ∧ Keep (fun q => w.heap.size ≤ q ∧ q < w1.heap.size) wo wi) (fun i _ => l - (intOf i).toNat)
            case atStart => exact ⟨0, by omega, rfl, by rw [List.take_zero, List.nil_append, List.drop_zero, set_same HM2.out]; exact HO2.out, HKW.out⟩
            case round =>
              obtain ⟨q, hq, rfl, hom, hkp⟩ := hrel
              have hVq := HVM2.out.mixRow (i := top) (by rw [scaleRow_len, HRL2.out]) HRL2.out hq (scaleRow_valid (t := u) HP.out row2) HRV2.out
              obtain ⟨rowq, bq, cq, hmq, hrlq, hrvq, hqx, hfq⟩ := hom.cellAt hVq htn
              obtain ⟨hvq, hcq, hIq, hIAq⟩ := hqx hl1
              rw [List.getElem?_set_self (by rw [swapM_len, HNL.out]; exact htn)] at hmq
              obtain rfl := Option.some.inj hmq
              by_cases hlq : q < l
              · have hl := HRL2.out
                have hxq : row2[q]? = some (row2[q]'(by omega)) := List.getElem?_eq_getElem (by omega)
                obtain ⟨z, hz⟩ : ∃ z, row2[q]'(by omega) = z := ⟨_, rfl⟩
                rw [hz] at hxq
                have hzb := numB_bd (HRV2.out z (List.mem_of_getElem? hxq))
                have hub := numB_bd HUN.out
                have hmb := mul_bd hzb.1 (by omega) hub.1 (by omega)
                obtain ⟨z', hz', hzc⟩ := hIAq.cell q hlq
                rw [mix_get _ _ _ (scaleRow_len p u row2) (by rw [scaleRow_len]; omega), hxq] at hz'
                obtain rfl := Option.some.inj hz'
                rw [Nat.zero_add] at hzc
                have hfz := World.ownsRow.frozenAt hIq q
                obtain ⟨hO4, hK4⟩ := hom.store (List.getElem?_set_self (by rw [swapM_len, HNL.out]; exact htn)) hrlq hvq hIq (q := q) (z * u % p)
                rw [List.set_set, mix_set (scaleRow_len p u row2) (scaleRow_get hxq)] at hO4
                have HO4 := Lib.hid hO4
                have HK4 := Lib.hid (hkp.trans hK4)
                clear hO4 hK4 hkp hom hVq hrlq hrvq hqx hvq hIq hIAq hl hxq hz hz'
                go_wp2_with (fail)
                refine wp_quiet_tail 17 (by kernel_rfl) (by kernel_rfl) ?_
                simp only [List.take_succ_cons, List.take_zero, List.drop_succ_cons, List.drop_zero]
                repeat (go_big_quiet_step (fail))
                refine wpQuiet_nil ?_
                intro _ hw'
                obtain ⟨nq, hw''⟩ := hw'
                subst hw''
                go_wp2_with (fail)
                go_roundw
                case rel => exact ⟨q + 1, by omega, by go_num, HO4.out.drewN _, HK4.out.drewN _⟩
                case measure => simp [intOf]; omega
              · obtain rfl : q = l := by omega
                rw [mixDone (by rw [scaleRow_len]; exact HRL2.out) HRL2.out, HM3.out] at hom
                obtain ⟨M3, hM3⟩ : ∃ M3, chooseM p N k top j = M3 := ⟨_, rfl⟩
                have HL3 := Lib.hid (show M3.length = n by rw [← hM3, chooseM_len, HNL.out])
                have HV3 := Lib.hid (show VM p q M3 by rw [← hM3]; exact HV.out.choose HP.out (by rw [HNL.out]; exact hlk) (by rw [HNL.out]; exact htn))
                rw [HN.out, HHS.out, HT.out] at HG
                rw [hM3] at hom HG
                have HO3 := Lib.hid hom
                have HK3 := Lib.hid hkp
                have HG2 := Lib.hid HG.out
                clear hom hkp HG hM3 HM3 hVq hmq hrlq hrvq hqx hvq hIq hIAq HO2 HVM2 HKW HRV2 HRL2 HM2 HUN HXN
                go_wp2_with (fail)
                go_loopw [14, 15, 16] (fun i _ _ wi => ∃ k2 : Nat, k2 ≤ n ∧ i = .int .i64 k2 ∧ OMF wi w.heap.size w1.heap.size g n c1 ((clearM p M3 top j).take k2 ++ M3.drop k2) (swapV vs' k top) ∧ Keep (fun q => w.heap.size ≤ q ∧ q < w1.heap.size) wo wi) (fun i _ _ _ => n - (intOf i).toNat)
                case atStart => exact ⟨0, by omega, rfl, by simpa using HO3.out, HK3.out⟩
                case round =>
                  obtain ⟨k2, hk2, rfl, hom, hkp⟩ := hrel
                  by_cases hlk2 : k2 < n
                  · have hL3 := HL3.out
                    have hVM := Lib.hid (VM.mixM (top := top) (col := j) (k := k2) HP.out HV3.out (by omega))
                    obtain ⟨row, bi, ci, hmi, hrl, hrv, hix, hfi⟩ := hom.cellAt hVM.out hlk2
                    obtain ⟨hvi, hci, hIi, hIAi⟩ := hix hl1
                    obtain ⟨rowt, bt, ct, hmt, hrlt, hrvt, htx, hft⟩ := hom.cellAt hVM.out htn
                    obtain ⟨hvt, hct, hIt, hIAt⟩ := htx hl1
                    rw [mix_get _ _ _ (clearM_len p M3 top j) (by rw [clearM_len]; omega)] at hmi
                    rw [mix_top (by omega) (by omega)] at hmt
                    obtain ⟨x, hx, hxc⟩ := hIAi.cell j hlt
                    rw [Nat.zero_add] at hxc
                    by_cases hkt : k2 = top
                    · have hqq : ((k2 : Int) != (top : Int)) = false := eqInt hkt
                      have HS := Lib.hid (mix_stay (p := p) (M := M3) (top := top) (col := j) (k := k2) (by omega) (by omega) hkt)
                      have HO := Lib.hid hom
                      have HKP := Lib.hid hkp
                      clear hmi hvi hIi hmt hvt hIt hrl hrv hrlt hrvt hkt hL3 hom hkp hIAi hIAt hix htx hx
                      go_wp2_with (fail)
                      go_loop [16] (fun i => i = .int .i64 0) (fun _ => 0)
                      case atStart => rfl
                      case round =>
                        obtain rfl := hrel
                        go_wp2_with (fail)
                        go_roundw
                        case rel => exact ⟨k2 + 1, by omega, by go_num, by rw [← HS.out]; exact HO.out, HKP.out⟩
                        case measure => simp [intOf]; omega
                    · have hqq : ((k2 : Int) != (top : Int)) = true := neInt hkt
                      have hxn := hrv x (List.mem_of_getElem? hx)
                      have hat : at2 M3 k2 j = x := at2_of hmi hx
                      have HSR := Lib.hid (show (clearM p M3 top j)[k2]? = some (subRow p x row rowt) by
                        rw [clearM_get _ _ _ _ _ (by omega)]; unfold clearRow; rw [if_neg hkt, hat, getD_of hmi, getD_of hmt])
                      have HO := Lib.hid hom
                      have HKP := Lib.hid hkp
                      have HMI := Lib.hid hmi
                      have HMT := Lib.hid hmt
                      have HRL := Lib.hid hrl
                      have HXN := Lib.hid hxn
                      have HRV := Lib.hid hrv
                      have HRVT := Lib.hid hrvt
                      have HRLT := Lib.hid hrlt
                      clear hom hkp hmi hmt hvi hvt hrl hrv hrlt hrvt hIi hIt hIAi hIAt hx hxn hat hL3 hix htx
                      go_wp2_with (fail)
                      go_loopw [16] (fun i wi => ∃ s : Nat, s ≤ q ∧ i = .int .i64 s ∧ OMF wi w.heap.size w1.heap.size g n c1 (((clearM p M3 top j).take k2 ++ M3.drop k2).set k2 ((subRow p x row rowt).take s ++ row.drop s)) (swapV vs' k top) ∧ Keep (fun q => w.heap.size ≤ q ∧ q < w1.heap.size) wo wi) (fun i _ => q - (intOf i).toNat)
                      case atStart => exact ⟨0, by omega, rfl, by rw [List.take_zero, List.nil_append, List.drop_zero, set_same (by rw [mix_get _ _ _ (clearM_len p M3 top j) (by rw [clearM_len, HL3.out]; exact hlk2)]; exact HMI.out)]; exact HO.out, HKP.out⟩
                      case round =>
                        obtain ⟨s, hs', rfl, hom, hkp⟩ := hrel
                        have hsl : (subRow p x row rowt).length = q := subRow_full HRL.out HRLT.out
                        have hVq := hVM.out.mixRow (i := k2) hsl HRL.out hs' (subRow_valid HP.out row rowt) HRV.out
                        obtain ⟨rowq, bq, cq, hmq, hrlq, hrvq, hqx, hfq⟩ := hom.cellAt hVq hlk2
                        obtain ⟨hvq, hcq, hIq, hIAq⟩ := hqx hl1
                        obtain ⟨rowt', bt', ct', hmt', hrlt', hrvt', htx', hft'⟩ := hom.cellAt hVq htn
                        obtain ⟨hvt', hct', hIt', hIAt'⟩ := htx' hl1
                        have hml : k2 < ((clearM p M3 top j).take k2 ++ M3.drop k2).length := by simp [clearM_len, HL3.out]; omega
                        rw [List.getElem?_set_self hml] at hmq
                        obtain rfl := Option.some.inj hmq
                        rw [List.getElem?_set_ne (by intro e; rw [e] at hqq; simp at hqq), mix_top (by rw [HL3.out]; omega) (by rw [HL3.out]; omega), HMT.out] at hmt'
                        obtain rfl := Option.some.inj hmt'
                        by_cases hlq : s < q
                        · have hl := HRL.out
                          have hlt' := HRLT.out
                          have hxq : row[s]? = some (row[s]'(by omega)) := List.getElem?_eq_getElem (by omega)
                          obtain ⟨z, hz⟩ : ∃ z, row[s]'(by omega) = z := ⟨_, rfl⟩
                          rw [hz] at hxq
                          have hzb := numB_bd (HRV.out z (List.mem_of_getElem? hxq))
                          obtain ⟨z', hz', hzc⟩ := hIAq.cell s hlq
                          rw [mix_get _ _ _ (by rw [hsl]; omega) (by rw [hsl]; exact hlq), hxq] at hz'
                          obtain rfl := Option.some.inj hz'
                          obtain ⟨y, hy, hyc⟩ := hIAt'.cell s hlq
                          have hyb := numB_bd (HRVT.out y (List.mem_of_getElem? hy))
                          have hxb := numB_bd HXN.out
                          have hmb := mul_bd hxb.1 (by omega) hyb.1 (by omega)
                          rw [Nat.zero_add] at hzc hyc
                          have hfz := World.ownsRow.frozenAt hIq s
                          obtain ⟨hO4, hK4⟩ := hom.store (List.getElem?_set_self hml) hrlq hvq hIq (q := s) ((z - x * y) % p)
                          rw [List.set_set, mix_set (by rw [hsl]; omega) (subRow_get hxq hy)] at hO4
                          have HO4 := Lib.hid hO4
                          have HK4 := Lib.hid (hkp.trans hK4)
                          obtain ⟨u', hu'⟩ : ∃ u', (z - x * y) % p = u' := ⟨_, rfl⟩
                          rw [hu'] at HO4 HK4
                          have HU' := Lib.hid hu'
                          clear hO4 hK4 hkp hom hVq hrlq hrvq hqx hvq hIq hIAq hl hxq hz hz' hy hml hsl hlt' hrlt' hrvt' htx' hvt' hIt' hIAt' hu'
                          go_wp2_with (fail)
                          refine wp_quiet_tail 25 (by kernel_rfl) (by kernel_rfl) ?_
                          simp only [List.take_succ_cons, List.take_zero, List.drop_succ_cons, List.drop_zero]
                          repeat (go_big_quiet_step ((go_at_call 81; exact quiet_same (l1Mod_is HU'.out _ hpb.1 hpb.2))))
                          refine wpQuiet_nil ?_
                          intro _ hw'
                          obtain ⟨nq, hw''⟩ := hw'
                          subst hw''
                          go_wp2_with (fail)
                          go_roundw
                          case rel => exact ⟨s + 1, by omega, by go_num, HO4.out.drewN _, HK4.out.drewN _⟩
                          case measure => simp [intOf]; omega
                        · obtain rfl : s = q := by omega
                          rw [mixDone hsl HRL.out, set_step _ _ k2 _ (clearM_len _ _ _ _) HSR.out] at hom
                          have HO5 := Lib.hid hom
                          have HK5 := Lib.hid hkp
                          clear hom hkp hVq hrlq hrvq hqx hvq hIq hIAq hml hsl hrlt' hrvt' htx' hvt' hIt' hIAt'
                          go_wp2_with (fail)
                          go_roundw
                          case rel => exact ⟨k2 + 1, by omega, by go_num, HO5.out, HK5.out⟩
                          case measure => simp [intOf]; omega
                  · obtain rfl : k2 = n := by omega
                    rw [mixDone (xs := clearM p M3 top j) (ys := M3) (n := k2) (by rw [clearM_len]; exact HL3.out) HL3.out] at hom
                    have HO := Lib.hid hom
                    have HKP := Lib.hid hkp
                    have HCW := Lib.hid (show OI wr w1.heap.size A' top c' (headI hs) from owns_keep HCH.out hkp (fun q hq hs => by have := (HCH.out.lt q hq).1; omega))
                    have HBW := Lib.hid (HB.out.trans (hkp.below (B := w.heap.size) (by have := HB.out.size; omega) (fun q hq => hq.1)))
                    have hsw := HBW.out.size
                    have hsw2 : w1.heap.size ≤ wr.heap.size := Nat.le_trans hszo hkp.size
                    clear hom hkp hcq
                    go_wp2_with (at_builtin; refine wpList_app_int rfl (.tmp 156) (.tmp 158) rfl w1.heap.size A' top c' _ rfl (HCW.out.alloc _) (j : Int) _ _ rfl ?_ (by omega) ?_ ?_)
                    · simp
                    · simp; omega
                    · intro A6 c6 w6 hI6 hK6
                      have HI6 := Lib.hid hI6
                      have hst : ∀ q, (Value.slice A' top c').ownBlock = some q → w1.heap.size ≤ q := fun q hq => ((HCW.out).lt q hq).1
                      have HO6 := Lib.hid ((HO.out.keep ((Keep.refl (fun _ => False) _).alloc (.cells #[.int .i64 (j : Int)] 3)) (fun _ _ h => h)).keep hK6 (fun q hq hs => by have := hst q hs; omega))
                      have HB6 := Lib.hid ((HBW.out.alloc (by omega) (.cells #[.int .i64 (j : Int)] 3)).trans (hK6.below (B := w.heap.size) (by simp; omega) (fun q hq => by have := hst q hq; omega)))
                      have hsw6 : w1.heap.size ≤ w6.heap.size := Nat.le_trans (by simp; omega) hK6.size
                      clear hI6 hK6 hst
                      go_wp2_with (fail)
                      go_roundw
                      case rel => exact ⟨j + 1, A6, c6, swapV vs' k top, by omega, by go_num, by rw [HG2.out]; simp [HT.out], by rw [HG2.out]; simp [HT.out], by rw [HG2.out]; exact HO6.out, by rw [HG2.out]; simpa [headI, HT.out] using HI6.out, HB6.out, hsw6⟩
                      case measure => simp [intOf]; omega
        · obtain rfl : k = n := by omega
          have hnone : firstW N j (N.length - top) top = none := firstW_not (fun q h1 h2 => hz.out q h1 (by rw [HNL.out] at h2; omega))
          have HS := Lib.hid (elim_stay (p := p) (M := M) (j := j) (by rw [HN.out, HHS.out, HT.out]; exact hnone))
          have hqn : ((k : Int) == (k : Int)) = true := by simp
          clear hnone
          go_wp2_with (fail)
          go_roundw
          case rel => exact ⟨j + 1, A', c', vs', by omega, by go_num, by rw [HS.out, HHS.out, HT.out], by rw [HS.out, HHS.out, HT.out], by rw [HS.out, HN.out]; exact HO.out, by rw [HS.out, HHS.out, HT.out]; exact HCH.out, HB.out, hszo⟩
          case measure => simp [intOf]; omega
    · obtain rfl : j = l := by omega
      go_wp2_with (fail)
      go_ret2
      exact ⟨_, _, _, _, _, by rw [HML.out, HHS.out, HT.out]; rfl, by rw [HN.out, HML.out]; exact HO.out.om, by rw [HHS.out, HT.out]; exact owns_mono HCH.out hs1, HB.out⟩
end Go.Proofs.Ytcjpjcigjljplaa
