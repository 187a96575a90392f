/-
  Plain mathematics of the kernel; the contracts of the program's MatKernel and of what it calls.
-/
import Derived.Test.YtpelokdgjdljfabFormM
namespace Go.Proofs.Ytpelokdgjdljfab
open Go.RowKit
def kerFill (p : Int) (F : List (List Int)) (hs : List Nat) (c l : Nat) : Nat → List Int
  | 0 => (List.replicate l 0).set c 1
  | k + 1 => (kerFill p F hs c l k).set (hs.getD k 0) (-(at2 F k c) % p)
theorem kerFill_len (p : Int) (F : List (List Int)) (hs : List Nat) (c l : Nat) : ∀ k, (kerFill p F hs c l k).length = l
  | 0 => by simp [kerFill]
  | k + 1 => by simp [kerFill, kerFill_len p F hs c l k]
def kerM (p : Int) (F : List (List Int)) (hs : List Nat) (l : Nat) : Nat → List (List Int)
  | 0 => []
  | c + 1 => if c ∈ hs then kerM p F hs l c else kerM p F hs l c ++ [kerFill p F hs c l hs.length]
theorem kerM_stay {p : Int} {F : List (List Int)} {hs : List Nat} {l c : Nat} (h : c ∈ hs) : kerM p F hs l (c + 1) = kerM p F hs l c := by
  show (if c ∈ hs then _ else _) = _
  rw [if_pos h]
theorem kerM_go {p : Int} {F : List (List Int)} {hs : List Nat} {l c : Nat} (h : c ∉ hs) : kerM p F hs l (c + 1) = kerM p F hs l c ++ [kerFill p F hs c l hs.length] := by
  show (if c ∈ hs then _ else _) = _
  rw [if_neg h]
theorem kerM_len_le (p : Int) (F : List (List Int)) (hs : List Nat) (l : Nat) : ∀ c, (kerM p F hs l c).length ≤ c
  | 0 => by simp [kerM]
  | c + 1 => by
    have := kerM_len_le p F hs l c
    by_cases h : c ∈ hs
    · rw [kerM_stay h]; omega
    · rw [kerM_go h]; simp; omega
def kernelR (p : Int) (M : List (List Int)) : List (List Int) :=
  if matB p M = true then kerM p (elim p M (M.headD []).length).1 (elim p M (M.headD []).length).2 (M.headD []).length (M.headD []).length else []
theorem kernelR_yes {p : Int} {M : List (List Int)} (h : matB p M = true) : kernelR p M = kerM p (elim p M (M.headD []).length).1 (elim p M (M.headD []).length).2 (M.headD []).length (M.headD []).length := by unfold kernelR; rw [if_pos h]
theorem kernelR_no {p : Int} {M : List (List Int)} (h : matB p M = false) : kernelR p M = [] := by unfold kernelR; rw [if_neg (by simp [h])]
theorem elim_heads (p : Int) (M : List (List Int)) : ∀ c, ∀ h ∈ (elim p M c).2, h < c
  | 0 => by intro h hh; simp [elim] at hh
  | c + 1 => by
    intro h hh
    change h ∈ (stepE p (elim p M c).1 (elim p M c).2 c).2 at hh
    unfold stepE at hh
    split at hh
    · have := elim_heads p M c h hh; omega
    · rcases List.mem_append.1 hh with hh | hh
      · have := elim_heads p M c h hh; omega
      · simp at hh; omega
theorem headI_mem {hs : List Nat} {c : Nat} : (c : Int) ∈ headI hs ↔ c ∈ hs := by
  unfold headI
  rw [List.mem_map]
  exact ⟨fun ⟨a, h1, h2⟩ => by have : a = c := by omega
                               exact this ▸ h1, fun h => ⟨c, h, rfl⟩⟩
theorem headI_get {hs : List Nat} {k : Nat} (h : k < hs.length) : (headI hs)[k]? = some ((hs.getD k 0 : Nat) : Int) := by
  unfold headI; rw [List.getElem?_map, List.getD_eq_getElem?_getD, List.getElem?_eq_getElem h]; rfl
theorem getD_mem_nat {hs : List Nat} {k : Nat} (h : k < hs.length) : hs.getD k 0 ∈ hs := by
  rw [List.getD_eq_getElem?_getD, List.getElem?_eq_getElem h]; exact List.getElem_mem h
def IndexPost (v : Int) (xs : List Int) (w : World) (e : Ending) (w' : World) : Prop := (∃ x : Int, e = .returned (.int .i64 x) ∧ decide (x ≥ 0) = decide (v ∈ xs)) ∧ w = w'
theorem implIndex (A : Option Addr) (n c b o : Nat) (xs : List Int) (v : Int) (w : World) (h : IA w A n b o xs) :
    Calls Try.prog 76 #[.slice A n c, .int .i64 v] w (IndexPost v xs w) := by
  have hbig := h.big
  have H := Lib.hid h
  clear h
  go_enter Try.func76, Try.ntmps76
  go_wp2_with (fail)
  go_loop [8] (fun i => ∃ k : Nat, k ≤ n ∧ i = .int .i64 k ∧ Hid (∀ j y, j < k → xs[j]? = some y → y ≠ v)) (fun i => n - (intOf i).toNat)
  case atStart => exact ⟨0, by omega, rfl, fun j y h => absurd h (by omega)⟩
  case round =>
    obtain ⟨k, hk, rfl, hz⟩ := hrel
    by_cases hlt : k < n
    · obtain rfl := H.out.adr (by omega)
      obtain ⟨x, hx, hxc⟩ := H.out.cell k hlt
      by_cases he : v = x
      · subst he
        have hb : (v == v) = true := by simp
        have HM := Lib.hid (List.mem_of_getElem? hx)
        clear hx
        go_wp2_with (fail)
        go_ret
        exact ⟨⟨_, rfl, by rw [decide_eq_true HM.out]; simp⟩, rfl⟩
      · have hb : (v == x) = false := by simp [he]
        have HX := Lib.hid hx
        have HE := Lib.hid he
        clear hx he
        go_wp2_with (fail)
        go_round
        case rel => exact ⟨k + 1, by omega, by go_num, fun j y h1 h2 => if e : j = k then by (rw [e, HX.out] at h2; intro e2; exact HE.out (e2 ▸ (Option.some.inj h2).symm)) else hz.out j y (by omega) h2⟩
        case measure => simp [intOf]; omega
    · obtain rfl : k = n := by omega
      go_wp2_with (fail)
      go_ret
      refine ⟨⟨_, rfl, ?_⟩, rfl⟩
      rw [show decide (v ∈ xs) = false from decide_eq_false (fun hm => by
        obtain ⟨j, hj, he⟩ := List.getElem_of_mem hm
        exact hz.out j v (by rw [← H.out.len]; exact hj) (by rw [List.getElem?_eq_getElem hj, he]) rfl)]
      simp
def BoolSame (t : Bool) (w : World) (e : Ending) (w' : World) : Prop := e = .returned (.bool t) ∧ w = w'
theorem implContains (A : Option Addr) (n c b o : Nat) (xs : List Int) (v : Int) (w : World) (h : IA w A n b o xs) :
    Calls Try.prog 64 #[.slice A n c, .int .i64 v] w (BoolSame (decide (v ∈ xs)) w) := by
  have H := Lib.hid h
  clear h
  go_enter Try.func64, Try.ntmps64
  go_wp2_with (fail)
  refine (implIndex A n c b o xs v _ H.out).mono ?_
  rintro e w' ⟨⟨x, rfl, hx⟩, rfl⟩
  go_wp2_with (fail)
  go_ret
  exact ⟨by rw [← hx]; rfl, rfl⟩
theorem implMatKernel (p : Int) (A : Option Addr) (n c b o : Nat) (M : List (List Int)) (w : World) (h : RA w A n b o M) :
    Calls Try.prog 34 #[.int .i64 p, .slice A n c] w (MadeM (kernelR p M).length (kernelR p M) w) := by
  have hbig := h.big
  have H := Lib.hid h
  clear h
  rcases hv : matB p M
  · have HV := Lib.hid hv
    have HR := Lib.hid (kernelR_no hv)
    clear hv
    go_enter Try.func34, Try.ntmps34
    go_wp2_with (fail)
    refine (implMatValid p A n c b o M _ H.out).mono ?_
    rintro e w1 ⟨rfl, rfl⟩
    rw [HV.out]
    go_wp2_with (fail)
    go_ret
    exact ⟨none, 0, [], by rw [HR.out]; rfl, by rw [HR.out]; exact OM.none _ _, Below.refl _ _⟩
  · obtain ⟨hn1, hn8, hl1, hl8, hrows⟩ := matB_true hv
    have hL := H.out.len
    obtain ⟨l0, hl0⟩ : ∃ l0, (M.headD []).length = l0 := ⟨_, rfl⟩
    have hR := kernelR_yes hv
    have hvm := VM_of_mat hv
    have hp := prime_of_mat hv
    rw [hl0] at hl1 hl8 hrows hR hvm
    rw [hL] at hn1 hn8
    have hpb := prime_ge hp
    have hinv := elim_inv hp hvm l0
    have hhd := elim_heads p M l0
    have HV := Lib.hid hv
    have HR := Lib.hid hR
    have HVM := Lib.hid hvm
    have HP := Lib.hid hp
    have HRW := Lib.hid (show ∀ row ∈ M, row.length = l0 from fun row hr => (hrows row hr).1)
    have HHD := Lib.hid hhd
    have hmk := run_make_row' (P := Try.prog) 30 3 (.int .i64 0) 8 Try.underlying30 infoInt rfl .i64 .i64 l0 (by omega) (by omega)
    have HIN := Lib.hid hinv
    clear hv hrows hl0 hR hvm hp hinv hL hhd
    go_enter Try.func34, Try.ntmps34
    go_wp2_with (fail)
    refine (implMatValid p A n c b o M _ H.out).mono ?_
    rintro e w1 ⟨rfl, rfl⟩
    rw [HV.out]
    go_wp2_with (fail)
    refine (copyRows_any A n c b o l0 M _ H.out hn8 hl1 (by omega) HRW.out).mono ?_
    rintro e w1 ⟨A1, c1, vs, rfl, hO, hB⟩
    obtain ⟨g, hg⟩ := hO.addr hn1
    subst hg
    obtain ⟨row0, A0, c0, hm0, hv0, hc0, hI0, hf0⟩ := (OMF.mk hO (hO.out.lt g rfl).2 hO.foot).cell (r := 0) (by omega)
    have hr0 := HRW.out row0 (List.mem_of_getElem? hm0)
    rw [hr0] at hc0
    have HO := Lib.hid hO
    clear hm0 hv0 hI0 hr0 hO
    go_wp2_with (fail)
    refine (reduceRows_any p w.heap.size g n c1 l0 l0 M vs _ HO.out HP.out HVM.out (Nat.le_refl _) (by omega) hn1 hn8).mono ?_
    rintro e w2 ⟨A2, c2, vs2, rfl, hO2, hI2, hB2⟩
    obtain ⟨F, hF⟩ : ∃ F, (elim p M l0).1 = F := ⟨_, rfl⟩
    obtain ⟨hs, hHS⟩ : ∃ hs, (elim p M l0).2 = hs := ⟨_, rfl⟩
    obtain ⟨m, hm⟩ : ∃ m, hs.length = m := ⟨_, rfl⟩
    have hin := HIN.out
    rw [hF, hHS, hm, HO.out.len] at hin
    have HHD' := HHD.out
    rw [hHS] at HHD'
    have hR := HR.out
    rw [hF] at hO2
    rw [hHS] at hI2
    rw [hF, hHS] at hR
    rw [hm] at hI2
    simp only [hHS, hm]
    obtain ⟨b2, hIA2⟩ := hI2.ia
    have HIA2 := Lib.hid hIA2
    have HOF := Lib.hid (OMF.mk hO2 (Nat.lt_of_lt_of_le (hO2.out.lt g rfl).2 (Nat.le_refl _)) hO2.foot)
    have HR' := Lib.hid hR
    have HD := Lib.hid HHD'
    have HVF := Lib.hid hin.2.1
    have hmn := hin.2.2.1
    have hml := hin.2.2.2
    have HM := Lib.hid hm
    have HFL := Lib.hid hin.1
    clear hO2 hI2 hIA2 hR HHD' hin hF hHS hm HIN HHD HR HO
    go_wp2_with (fail)
    go_loopw [8, 28] (fun v i wr => ∃ (f : Nat) (A' : Option Addr) (c' : Nat) (vs' : List Value), f ≤ l0 ∧ i = .int .i64 f ∧ v = .slice A' (kerM p F hs l0 f).length c' ∧ OM wr w2.heap.size A' (kerM p F hs l0 f).length c' (kerM p F hs l0 f) vs' ∧ Below w2.heap.size w2 wr) (fun _ i _ => l0 - (intOf i).toNat)
    case atStart => exact ⟨0, _, _, [], by omega, rfl, rfl, OM.none _ _, Below.refl _ _⟩
    case round =>
      obtain ⟨f, A', c', vs', hf, rfl, rfl, hom, hbel⟩ := hrel
      obtain ⟨wo, rfl⟩ : ∃ wo : World, wo = wr := ⟨_, rfl⟩
      obtain ⟨K, hK⟩ : ∃ K, kerM p F hs l0 f = K := ⟨_, rfl⟩
      obtain ⟨kl, hkl⟩ : ∃ kl, K.length = kl := ⟨_, rfl⟩
      have hkle := kerM_len_le p F hs l0 f
      rw [hK, hkl] at hkle
      rw [hK, hkl] at hom
      simp only [hK, hkl]
      have hs0 := hbel.size
      by_cases hlt : f < l0
      · by_cases hin : f ∈ hs
        · have HS := Lib.hid (show kerM p F hs l0 (f + 1) = K by rw [kerM_stay hin, hK])
          have HC := Lib.hid (show decide ((f : Int) ∈ headI hs) = true from decide_eq_true (headI_mem.2 hin))
          have HOM := Lib.hid hom
          have HB := Lib.hid hbel
          have HKL := Lib.hid hkl
          clear hin hom hbel hK hkl
          go_wp2_with (fail)
          refine (implContains A2 m c2 b2 0 (headI hs) f _ (HIA2.out.below HB.out)).mono ?_
          rintro e w3 ⟨rfl, rfl⟩
          rw [HC.out]
          go_wp2_with (fail)
          go_roundw
          case rel => exact ⟨f + 1, A', c', vs', by omega, by go_num, by rw [HS.out, HKL.out], by rw [HS.out, HKL.out]; exact HOM.out, HB.out⟩
          case measure => simp [intOf]; omega
        · have HS := Lib.hid (show kerM p F hs l0 (f + 1) = K ++ [kerFill p F hs f l0 m] by rw [kerM_go hin, hK, HM.out])
          have HC := Lib.hid (show decide ((f : Int) ∈ headI hs) = false from decide_eq_false (fun h => hin (headI_mem.1 h)))
          have HOM := Lib.hid hom
          have HB := Lib.hid hbel
          have HKL := Lib.hid hkl
          clear hin hom hbel hK hkl
          obtain ⟨h1, _⟩ := World.ownsRow.stored (made_ints wo l0 (by omega)) f (.int .i64 1)
          rw [ints_set] at h1
          have h1c := World.ownsRow.cellAt (made_ints wo l0 (by omega)) f (by omega)
          have h1f := World.ownsRow.frozenAt (made_ints wo l0 (by omega)) f
          have hz : (ints (List.replicate l0 (0 : Int)))[f]? = some (.int .i64 0) := by unfold ints; simp [hlt]
          rw [hz] at h1c
          have HI1 := Lib.hid (show OI _ wo.heap.size (some ⟨wo.heap.size, 0, none⟩) l0 l0 (kerFill p F hs f l0 0) from h1)
          have HB1 := Lib.hid (show Below wo.heap.size wo ((wo.alloc (.cells (madeCells #[.int .i64 0] l0) 3)).setCell ⟨wo.heap.size, f, none⟩ (.int .i64 1)) from ((Below.refl wo.heap.size wo).alloc (Nat.le_refl _) _).setCell (Nat.le_refl _) _)
          clear h1 hz
          go_wp2_with (fail)
          refine (implContains A2 m c2 b2 0 (headI hs) f _ (HIA2.out.below HB.out)).mono ?_
          rintro e w3 ⟨rfl, rfl⟩
          rw [HC.out]
          go_wp2_with (fail)
          rw [World.setCell_alloc_at _ _ _ _ _ rfl] at HI1 HB1
          go_loopw [41] (fun i wi => ∃ k : Nat, k ≤ m ∧ i = .int .i64 k ∧ OI wi wo.heap.size (some ⟨wo.heap.size, 0, none⟩) l0 l0 (kerFill p F hs f l0 k) ∧ Below wo.heap.size wo wi) (fun i _ => m - (intOf i).toNat)
          case atStart => exact ⟨0, by omega, rfl, HI1.out, HB1.out⟩
          case round =>
            obtain ⟨k, hk, rfl, hrow, hbi⟩ := hrel
            have hbt := HB.out.trans (hbi.mono hs0)
            by_cases hlk : k < m
            · obtain rfl := HIA2.out.adr (by omega)
              obtain ⟨q, hq⟩ : ∃ q, hs.getD k 0 = q := ⟨_, rfl⟩
              have hql : q < l0 := hq ▸ HD.out _ (getD_mem_nat (by rw [HM.out]; exact hlk))
              obtain ⟨y1, hy1, hyc⟩ := (HIA2.out.below hbt).cell k hlk
              rw [headI_get (by rw [HM.out]; exact hlk), hq] at hy1
              obtain rfl := Option.some.inj hy1
              rw [Nat.zero_add] at hyc
              obtain ⟨row, bk, ck, hmk', hrl, hrv, hkx, _⟩ := HOF.out.cellAt HVF.out (r := k) (by omega)
              obtain ⟨hvk, hck, hIk, hIA⟩ := hkx hl1
              have hck' := (keep_of_below hbt).cell hck (fun h => h)
              obtain ⟨y, hy, hyc2⟩ := (hIA.below hbt).cell f hlt
              rw [Nat.zero_add] at hyc2
              have hyb := numB_bd (hrv y (List.mem_of_getElem? hy))
              have hat : at2 F k f = y := at2_of hmk' hy
              obtain ⟨u, hu⟩ : ∃ u, (p - y) % p = u := ⟨_, rfl⟩
              have hrs := World.ownsRow.cellAt hrow q (by omega)
              obtain ⟨z, hz⟩ : ∃ z, (kerFill p F hs f l0 k)[q]? = some z := ⟨_, List.getElem?_eq_getElem (by rw [kerFill_len]; exact hql)⟩
              have hz2 : (ints (kerFill p F hs f l0 k))[q]? = some (.int .i64 z) := by unfold ints; rw [List.getElem?_map, hz]; rfl
              rw [hz2] at hrs
              have hrf := World.ownsRow.frozenAt hrow q
              obtain ⟨hst, _⟩ := World.ownsRow.stored hrow q (.int .i64 u)
              rw [ints_set] at hst
              have hset : (kerFill p F hs f l0 k).set q u = kerFill p F hs f l0 (k + 1) := by
                show _ = (kerFill p F hs f l0 k).set (hs.getD k 0) (-(at2 F k f) % p)
                rw [hq, hat, ← hu, Int.sub_eq_add_neg, Int.add_emod_left]
              rw [hset] at hst
              have HI4 := Lib.hid hst
              have HB4 := Lib.hid (hbi.trans ((setCell_keep wr ⟨wo.heap.size, q, none⟩ (.int .i64 u)).below (B := wo.heap.size) hbi.size (fun x hx => by rw [hx]; exact Nat.le_refl _)))
              have HU := Lib.hid hu
              clear hset hst hz2 hz hrow hbi hbt hkx hvk hck hIk hIA hy hmk' hat hu hrl hrv hq
              go_wp2_with (fail)
              refine (negative_is HU.out _ hpb.1 hpb.2 hyb.1 hyb.2.1).mono ?_
              rintro e w5 ⟨rfl, rfl⟩
              go_wp2_with (fail)
              go_roundw
              case rel => exact ⟨k + 1, by omega, by go_num, HI4.out, HB4.out⟩
              case measure => simp [intOf]; omega
            · obtain rfl : k = m := by omega
              have HRW2 := Lib.hid hrow
              have HBI := Lib.hid hbi
              have HL := Lib.hid (show (kerFill p F hs f l0 k).length = l0 from kerFill_len _ _ _ _ _ _)
              have hsi := HBI.out.size
              clear hrow hbi hbt
              go_wp2_with (at_builtin; refine wpList_app_row rfl (.tmp 59) (.tmp 61) rfl w2.heap.size A' kl c' vs' rfl (World.ownsRow.alloc (owns_below HOM.out.out HBI.out) _) (some ⟨wo.heap.size, 0, none⟩) l0 l0 _ _ rfl ?_ (by omega) ?_ ?_)
              · simp
              · simp; omega
              · intro A3 c3 w3 ho3 hK3
                have hp := HOM.out.push (HBI.out.alloc hsi (.cells #[.slice (some ⟨wo.heap.size, 0, none⟩) l0 l0] 30)) (row := kerFill p F hs f l0 k) (A1 := some ⟨wo.heap.size, 0, none⟩) (c1 := l0) (by rw [HL.out]; exact HRW2.out.alloc _) (by rw [HL.out]; exact ho3) hK3 hs0
                have HP3 := Lib.hid hp
                have HB3 := Lib.hid (HB.out.trans (((HBI.out.alloc hsi (.cells #[.slice (some ⟨wo.heap.size, 0, none⟩) l0 l0] 30)).mono hs0).trans (hK3.below (B := w2.heap.size) (by simp; omega) (fun g hg => (HOM.out.out.lt g hg).1))))
                have HKL1 := Lib.hid (show (kerM p F hs l0 (f + 1)).length = kl + 1 by rw [HS.out]; simp [HKL.out])
                clear hp ho3 hK3
                go_wp2_with (fail)
                go_roundw
                case rel => exact ⟨f + 1, A3, c3, _, by omega, by go_num, by rw [HKL1.out], by rw [HKL1.out, HS.out]; exact HP3.out, HB3.out⟩
                case measure => simp [intOf]; omega
      · obtain rfl : f = l0 := by omega
        have HS := Lib.hid (show kernelR p M = K by rw [HR'.out, hK])
        have HKL := Lib.hid hkl
        have HOM := Lib.hid hom
        have HB := Lib.hid hbel
        clear hK hkl hom hbel
        go_wp2_with (fail)
        go_ret
        exact ⟨A', c', vs', by rw [HS.out, HKL.out]; rfl, by rw [HS.out, HKL.out]; exact HOM.out.mono (Nat.le_trans hB.size hB2.size), (hB.trans hB2).trans (HB.out.mono (Nat.le_trans hB.size hB2.size))⟩
end Go.Proofs.Ytpelokdgjdljfab
