/-
  The contract of the model's MatKernel.
-/
import Derived.Test.YtpelokdgjdljfabKern
import Derived.Maps.AppendAt
namespace Go.Proofs.Ytpelokdgjdljfab
open Go.RowKit
theorem wpList_app_row_at {ops : Array Oper} {rest : List Oper} {o : Oper} {a : Act} {Q : Exit → Act → World → Prop} {w : World} (hgd : o.guard = none) (s x : Operand)
    (ho : o.op = .call { callee := .builtin .append, args := #[s, x], argTypes := #[23, 23] })
    (B : Nat) (A : Option Addr) (n c : Nat) (vs : List Value) (hs : a.eval s = .slice A n c) (hown : w.ownsRow B 30 1 (.slice A n c) n vs) (A1 : Option Addr) (n1 c1 : Nat) (g c2 : Nat) (hx : a.eval x = .slice (some ⟨g, 0, none⟩) 1 c2) (hcell : w.cell? ⟨g, 0, none⟩ = some (.slice A1 n1 c1))
    (hn : n ≤ 1000000000) (hB : B ≤ w.heap.size)
    (h : ∀ (A' : Option Addr) (c' : Nat) (w' : World), w'.ownsRow B 30 1 (.slice A' (n + 1) c') (n + 1) (vs ++ [.slice A1 n1 c1]) → Keep (fun k => (Value.slice A n c).ownBlock = some k) w w' →
      (∀ q, (Value.slice A' (n + 1) c').ownBlock = some q → (Value.slice A n c).ownBlock = some q ∨ q = w.heap.size) → wpList Try.prog ops Q rest (a.put o.dst (.slice A' (n + 1) c')) w') :
    wpList Try.prog ops Q (o :: rest) a w := by
  obtain ⟨i0, hi, hz0, hz1, hz2⟩ := info_parts infoInts
  refine wpList_append_own_at w hgd s x 23 ho B 30 i0 (.slice none 0 0) 1 24 Try.underlying23 hi hz0 hz1 hz2 rfl (by decide) _ n vs hs hown ⟨g, 0, none⟩ 1 c2 [.slice A1 n1 c1] hx rfl ?_ ?_ ?_ ?_ hB ?_
  · intro j u hj
    match j, hj with
    | 0, hj => simp at hj; subst hj; simpa [Addr.add] using hcell
  · intro u hu; simp at hu; subst hu; rfl
  · unfold maxLen; omega
  · omega
  · intro v' w' h2 h3 _ h5
    obtain ⟨A', c', rfl⟩ := owns_shape h2
    refine h A' c' w' h2 (keep_grown h3) fun q hq => ?_
    rcases h5 with h5 | h5
    · exact .inl (h5 ▸ hq)
    · rw [h5] at hq; exact .inr (Option.some.inj hq).symm
/-- a list's first numbers, one more -/
theorem notin_step {hs : List Nat} {k f q : Nat} (hk : k < hs.length) (hq : hs.getD k 0 = q) : decide (f ∉ hs.take (k + 1)) = (decide (f ∉ hs.take k) && ((q : Int) != (f : Int))) := by
  have hg : hs[k]? = some q := by
    rw [← hq, List.getD_eq_getElem?_getD, List.getElem?_eq_getElem hk]; rfl
  rw [List.take_add_one, hg]
  by_cases h1 : f ∈ hs.take k
  · have h2 : f ∈ hs.take k ++ (some q).toList := List.mem_append_left _ h1
    simp [h1]
  · by_cases h2 : q = f
    · subst h2; simp
    · have h3 : ((q : Int) != (f : Int)) = true := neInt h2
      have h4 : f ∉ hs.take k ++ (some q).toList := by simp [h1]; omega
      rw [decide_eq_true h4, decide_eq_true h1, h3]; rfl
theorem specMatKernel (p : Int) (A : Option Addr) (n c b o : Nat) (M : List (List Int)) (w : World) (h : RA w A n b o M) :
    Calls Try.prog 38 #[.int .i64 p, .slice A n c] w (GivesM (kernelR p M) w) := by
  have hbig := h.big
  have H := Lib.hid h
  clear h
  rcases hv : matB p M
  · have HV := Lib.hid hv
    have HR := Lib.hid (kernelR_no hv)
    clear hv
    go_enter Try.func38, Try.ntmps38
    go_wp2_with (fail)
    refine (specMatValid p A n c b o M _ (H.out.below ((Below.refl _ _).alloc (Nat.le_refl _) _))).mono ?_
    rintro e w1 ⟨rfl, m, rfl⟩
    rw [HV.out]
    go_wp2_with (fail)
    go_ret
    refine ⟨_, _, 0, 0, by rw [HR.out]; rfl, ?_, ?_⟩
    · rw [HR.out]; exact RA.nil _ _
    · exact below_drawn ((Below.refl _ _).alloc (Nat.le_refl _) _) ⟨m, rfl⟩
  · obtain ⟨hn1, hn8, hl1, hl8, hrows⟩ := matB_true hv
    have hL := H.out.len
    obtain ⟨l0, hl0⟩ : ∃ l0, (M.headD []).length = l0 := ⟨_, rfl⟩
    have hR := kernelR_yes hv
    have hvm := VM_of_mat hv
    have hp := prime_of_mat hv
    rw [hl0] at hl1 hl8 hrows hR hvm
    rw [hL] at hn1 hn8
    have hpb := prime_ge hp
    have hinv := elim_inv hp hvm l0
    have hhd := elim_heads p M l0
    have HV := Lib.hid hv
    have HR := Lib.hid hR
    have HVM := Lib.hid hvm
    have HP := Lib.hid hp
    have HML := Lib.hid hL
    have HRW := Lib.hid (show ∀ row ∈ M, row.length = l0 from fun row hr => (hrows row hr).1)
    have HHD := Lib.hid hhd
    have hmk := run_make_row' (P := Try.prog) 30 3 (.int .i64 0) 8 Try.underlying30 infoInt rfl .i64 .i64 l0 (by omega) (by omega)
    have HIN := Lib.hid hinv
    obtain ⟨row0, A0, c0, b0, o0, hm0, hc0, hI0⟩ := H.out.row 0 (by omega)
    have hr0 := HRW.out row0 (List.mem_of_getElem? hm0)
    rw [hr0, Nat.add_zero] at hc0
    obtain rfl := H.out.adr (by omega)
    clear hv hrows hl0 hR hvm hp hinv hL hhd hm0 hI0 hr0
    go_enter Try.func38, Try.ntmps38
    go_wp2_with (fail)
    refine (specMatValid p _ n c b o M _ (H.out.below ((Below.refl _ _).alloc (Nat.le_refl _) _))).mono ?_
    rintro e w1 ⟨rfl, m, rfl⟩
    rw [HV.out]
    go_wp2_with (fail)
    refine (specForm p _ n c b o l0 M _ ((H.out.below ((Below.refl _ _).alloc (Nat.le_refl _) _)).seen m) HP.out HVM.out hn1 hn8 hl1 (by omega)).mono ?_
    rintro e w2 ⟨A2, c2, vs2, A3, c3, rfl, hO2, hI2, hB⟩
    obtain ⟨F, hF⟩ : ∃ F, (elim p M l0).1 = F := ⟨_, rfl⟩
    obtain ⟨hs, hHS⟩ : ∃ hs, (elim p M l0).2 = hs := ⟨_, rfl⟩
    obtain ⟨mm, hm⟩ : ∃ mm, hs.length = mm := ⟨_, rfl⟩
    have hin := HIN.out
    rw [hF, hHS, hm, HML.out] at hin
    have HHD' := HHD.out
    rw [hHS] at HHD'
    have hR := HR.out
    rw [HML.out, hF] at hO2
    rw [hHS, hm] at hI2
    rw [hF, hHS] at hR
    simp only [HML.out, hHS, hm]
    have hsz : ((w.alloc (.cells #[] 30)).drewN m).heap.size = w.heap.size + 1 := by simp
    rw [hsz] at hO2 hI2
    have hB1 : Below w.heap.size w w2 := (((Below.refl w.heap.size w).alloc (Nat.le_refl _) (.cells #[] 30)).trans ((below_undraw hB).mono (by simp)))
    have hs1 := hB.size
    rw [hsz] at hs1
    have HOF := Lib.hid hO2
    have HOI := Lib.hid hI2
    have HOUT := Lib.hid (show OM w2 w.heap.size (some ⟨w.heap.size, 0, none⟩) 0 0 [] [] from (OM.empty w).below (below_undraw hB))
    have HB := Lib.hid hB1
    have HR' := Lib.hid hR
    have HD := Lib.hid HHD'
    have HVF := Lib.hid hin.2.1
    have hmn := hin.2.2.1
    have hml := hin.2.2.2
    have HM := Lib.hid hm
    have HFL := Lib.hid hin.1
    clear hO2 hI2 hR HHD' hin hF hHS hm HIN HHD HR hB hB1 hsz
    go_wp2_with (fail)
    go_loopw [5, 8] (fun v i wr => ∃ (f : Nat) (A' : Option Addr) (c' : Nat) (vs' : List Value), f ≤ l0 ∧ i = .int .i64 f ∧ v = .slice A' (kerM p F hs l0 f).length c' ∧ OM wr w.heap.size A' (kerM p F hs l0 f).length c' (kerM p F hs l0 f) vs' ∧ (∀ q, (Value.slice A' (kerM p F hs l0 f).length c').ownBlock = some q → q = w.heap.size ∨ w2.heap.size ≤ q) ∧ Keep (fun q => q = w.heap.size ∨ w2.heap.size ≤ q) w2 wr) (fun _ i _ => l0 - (intOf i).toNat)
    case atStart => exact ⟨0, _, _, [], by omega, rfl, rfl, HOUT.out, fun q hq => .inl (by simp [Value.ownBlock] at hq; exact hq.symm), Keep.refl _ _⟩
    case round =>
      obtain ⟨f, A', c', vs', hf, rfl, rfl, hom, hbk, hkp⟩ := hrel
      obtain ⟨wo, rfl⟩ : ∃ wo : World, wo = wr := ⟨_, rfl⟩
      obtain ⟨K, hK⟩ : ∃ K, kerM p F hs l0 f = K := ⟨_, rfl⟩
      obtain ⟨kl, hkl⟩ : ∃ kl, K.length = kl := ⟨_, rfl⟩
      have hkle := kerM_len_le p F hs l0 f
      rw [hK, hkl] at hkle
      rw [hK, hkl] at hom hbk
      simp only [hK, hkl]
      have hs0 := hkp.size
      have hbw : Below w.heap.size w wo := HB.out.trans (hkp.below (B := w.heap.size) (by omega) (fun q hq => by omega))
      have hc0' := (keep_of_below hbw).cell hc0 (fun h => h)
      have HBW := Lib.hid hbw
      clear hbw
      by_cases hlt : f < l0
      · have HFO := Lib.hid (HOF.out.keep hkp (fun g hg _ hs => by omega))
        have HIO := Lib.hid (show OI wo (w.heap.size + 1) A3 mm c3 (headI hs) from owns_keep HOI.out hkp (fun g hg hs => by have := HOI.out.lt g hg; omega))
        have HOM := Lib.hid hom
        have HBK := Lib.hid hbk
        have HKP := Lib.hid hkp
        have HKL := Lib.hid hkl
        have HK := Lib.hid hK
        clear hom hbk hkp hK hkl
        go_wp2_with (fail)
        go_loop [9, 10] (fun fr i => ∃ k : Nat, k ≤ mm ∧ i = .int .i64 k ∧ fr = .bool (decide (f ∉ hs.take k))) (fun _ i => mm - (intOf i).toNat)
        case atStart => exact ⟨0, by omega, rfl, by simp⟩
        case round =>
          obtain ⟨k, hk, rfl, rfl⟩ := hrel
          by_cases hlk : k < mm
          · obtain ⟨b3, hIA3⟩ := HIO.out.ia
            obtain rfl := hIA3.adr (by omega)
            obtain ⟨q, hq⟩ : ∃ q, hs.getD k 0 = q := ⟨_, rfl⟩
            obtain ⟨y1, hy1, hyc⟩ := hIA3.cell k hlk
            rw [headI_get (by rw [HM.out]; exact hlk), hq] at hy1
            obtain rfl := Option.some.inj hy1
            rw [Nat.zero_add] at hyc
            have HS := Lib.hid (notin_step (f := f) (by rw [HM.out]; exact hlk) hq)
            clear hIA3 hq
            cases hd : decide (f ∉ hs.take k)
            · have HDD := Lib.hid hd
              clear hd
              go_wp2_with (fail)
              go_round
              case rel => exact ⟨k + 1, by omega, by go_num, by rw [HS.out, HDD.out]; rfl⟩
              case measure => simp [intOf]; omega
            · have HDD := Lib.hid hd
              clear hd
              go_wp2_with (fail)
              go_round
              case rel => exact ⟨k + 1, by omega, by go_num, by rw [HS.out, HDD.out]; rfl⟩
              case measure => simp [intOf]; omega
          · obtain rfl : k = mm := by omega
            rw [List.take_of_length_le (by rw [HM.out]; exact Nat.le_refl _)]
            by_cases hin : f ∈ hs
            · have HS := Lib.hid (show kerM p F hs l0 (f + 1) = K by rw [kerM_stay hin, HK.out])
              have hd : decide (f ∉ hs) = false := by simp [hin]
              rw [hd]
              clear hin hd
              go_wp2_with (fail)
              go_roundw
              case rel => exact ⟨f + 1, A', c', vs', by omega, by go_num, by rw [HS.out, HKL.out], by rw [HS.out, HKL.out]; exact HOM.out, by rw [HS.out, HKL.out]; exact HBK.out, HKP.out⟩
              case measure => simp [intOf]; omega
            · have HS := Lib.hid (show kerM p F hs l0 (f + 1) = K ++ [kerFill p F hs f l0 k] by rw [kerM_go hin, HK.out, HM.out])
              have hd : decide (f ∉ hs) = true := by simp [hin]
              rw [hd]
              obtain ⟨h1, _⟩ := World.ownsRow.stored (made_ints wo l0 (by omega)) f (.int .i64 1)
              rw [ints_set] at h1
              have h1c := World.ownsRow.cellAt (made_ints wo l0 (by omega)) f (by omega)
              have h1f := World.ownsRow.frozenAt (made_ints wo l0 (by omega)) f
              have hz : (ints (List.replicate l0 (0 : Int)))[f]? = some (.int .i64 0) := by unfold ints; simp [hlt]
              rw [hz] at h1c
              have HI1 := Lib.hid (show OI _ wo.heap.size (some ⟨wo.heap.size, 0, none⟩) l0 l0 (kerFill p F hs f l0 0) from h1)
              have HB1 := Lib.hid (show Below wo.heap.size wo ((wo.alloc (.cells (madeCells #[.int .i64 0] l0) 3)).setCell ⟨wo.heap.size, f, none⟩ (.int .i64 1)) from ((Below.refl wo.heap.size wo).alloc (Nat.le_refl _) _).setCell (Nat.le_refl _) _)
              rw [World.setCell_alloc_at _ _ _ _ _ rfl] at HI1 HB1
              clear h1 hz hin hd
              go_wp2_with (fail)
              go_loopw [12] (fun i wi => ∃ s : Nat, s ≤ k ∧ i = .int .i64 s ∧ OI wi wo.heap.size (some ⟨wo.heap.size, 0, none⟩) l0 l0 (kerFill p F hs f l0 s) ∧ Below wo.heap.size wo wi) (fun i _ => k - (intOf i).toNat)
              case atStart => exact ⟨0, by omega, rfl, HI1.out, HB1.out⟩
              case round =>
                obtain ⟨s, hsk, rfl, hrow, hbi⟩ := hrel
                by_cases hls : s < k
                · obtain ⟨b3, hIA3⟩ := HIO.out.ia
                  obtain rfl := hIA3.adr (by omega)
                  obtain ⟨q, hq⟩ : ∃ q, hs.getD s 0 = q := ⟨_, rfl⟩
                  have hql : q < l0 := hq ▸ HD.out _ (getD_mem_nat (by rw [HM.out]; exact hls))
                  obtain ⟨y1, hy1, hyc⟩ := (hIA3.below hbi).cell s hls
                  rw [headI_get (by rw [HM.out]; exact hls), hq] at hy1
                  obtain rfl := Option.some.inj hy1
                  rw [Nat.zero_add] at hyc
                  obtain ⟨g, hg⟩ := HFO.out.addr hn1
                  subst hg
                  obtain ⟨row, bk, ck, hmk', hrl, hrv, hkx, _⟩ := (OMF.mk HFO.out (HFO.out.out.lt g rfl).2 HFO.out.foot).cellAt HVF.out (r := s) (by omega)
                  obtain ⟨hvk, hck, hIk, hIA⟩ := hkx hl1
                  have hck' := (keep_of_below hbi).cell hck (fun h => h)
                  obtain ⟨y, hy, hyc2⟩ := (hIA.below hbi).cell f hlt
                  rw [Nat.zero_add] at hyc2
                  have hyb := numB_bd (hrv y (List.mem_of_getElem? hy))
                  have hat : at2 F s f = y := at2_of hmk' hy
                  obtain ⟨u, hu⟩ : ∃ u, -y % p = u := ⟨_, rfl⟩
                  have hrs := World.ownsRow.cellAt hrow q (by omega)
                  obtain ⟨z, hz⟩ : ∃ z, (kerFill p F hs f l0 s)[q]? = some z := ⟨_, List.getElem?_eq_getElem (by rw [kerFill_len]; exact hql)⟩
                  have hz2 : (ints (kerFill p F hs f l0 s))[q]? = some (.int .i64 z) := by unfold ints; rw [List.getElem?_map, hz]; rfl
                  rw [hz2] at hrs
                  have hrf := World.ownsRow.frozenAt hrow q
                  obtain ⟨hst, _⟩ := World.ownsRow.stored hrow q (.int .i64 u)
                  rw [ints_set] at hst
                  have hset : (kerFill p F hs f l0 s).set q u = kerFill p F hs f l0 (s + 1) := by
                    show _ = (kerFill p F hs f l0 s).set (hs.getD s 0) (-(at2 F s f) % p)
                    rw [hq, hat, ← hu]
                  rw [hset] at hst
                  have HI4 := Lib.hid hst
                  have HB4 := Lib.hid (hbi.trans ((setCell_keep wr ⟨wo.heap.size, q, none⟩ (.int .i64 u)).below (B := wo.heap.size) hbi.size (fun x hx => by rw [hx]; exact Nat.le_refl _)))
                  have HU := Lib.hid hu
                  clear hset hst hz2 hz hrow hbi hkx hvk hck hIk hIA hy hmk' hat hu hrl hrv hq hIA3
                  go_wp2_with (fail)
                  refine wp_quiet_tail 16 (by kernel_rfl) (by kernel_rfl) ?_
                  simp only [List.take_succ_cons, List.take_zero, List.drop_succ_cons, List.drop_zero]
                  repeat (go_big_quiet_step ((go_at_call 66; exact quiet_same (l1Mod_is HU.out _ hpb.1 hpb.2))))
                  refine wpQuiet_nil ?_
                  intro _ hw'
                  obtain ⟨nq, hw''⟩ := hw'
                  subst hw''
                  go_wp2_with (fail)
                  go_roundw
                  case rel => exact ⟨s + 1, by omega, by go_num, owns_keep HI4.out (drewN_keep (S := fun _ => False) _ _) (fun _ _ h => h), below_drawn HB4.out ⟨nq, rfl⟩⟩
                  case measure => simp [intOf]; omega
                · obtain rfl : s = k := by omega
                  have HRW2 := Lib.hid hrow
                  have HBI := Lib.hid hbi
                  have HL := Lib.hid (show (kerFill p F hs f l0 s).length = l0 from kerFill_len _ _ _ _ _ _)
                  have hsi := HBI.out.size
                  clear hrow hbi
                  go_wp2_with (at_builtin; refine wpList_app_row_at rfl (.tmp 80) (.tmp 82) rfl w.heap.size A' kl c' vs' rfl (World.ownsRow.alloc (owns_below HOM.out.out HBI.out) _) (some ⟨wo.heap.size, 0, none⟩) l0 l0 _ _ rfl ?_ (by omega) ?_ ?_)
                  · simp
                  · simp; omega
                  · intro A4 c4 w4 ho4 hK4 hb4
                    have hp := HOM.out.push (HBI.out.alloc hsi (.cells #[.slice (some ⟨wo.heap.size, 0, none⟩) l0 l0] 30)) (row := kerFill p F hs f l0 s) (A1 := some ⟨wo.heap.size, 0, none⟩) (c1 := l0) (by rw [HL.out]; exact HRW2.out.alloc _) (by rw [HL.out]; exact ho4) hK4 (by omega)
                    have HP4 := Lib.hid hp
                    have HK4 := Lib.hid ((HKP.out.trans ((keep_of_below (HBI.out.alloc hsi (.cells #[.slice (some ⟨wo.heap.size, 0, none⟩) l0 l0] 30))).mono (fun _ _ h => h.elim))).trans (hK4.mono (T := fun q => q = w.heap.size ∨ w2.heap.size ≤ q) (fun q _ hq => HBK.out q hq)))
                    have HB4 := Lib.hid (show ∀ q, (Value.slice A4 (kl + 1) c4).ownBlock = some q → q = w.heap.size ∨ w2.heap.size ≤ q from fun q hq => (hb4 q hq).elim (HBK.out q) (fun e => .inr (by rw [e]; omega)))
                    have HKL1 := Lib.hid (show (kerM p F hs l0 (f + 1)).length = kl + 1 by rw [HS.out]; simp [HKL.out])
                    clear hp ho4 hK4 hb4
                    go_wp2_with (fail)
                    go_roundw
                    case rel => exact ⟨f + 1, A4, c4, _, by omega, by go_num, by rw [HKL1.out], by rw [HKL1.out, HS.out]; exact HP4.out, by rw [HKL1.out]; exact HB4.out, HK4.out⟩
                    case measure => simp [intOf]; omega
      · obtain rfl : f = l0 := by omega
        have HS := Lib.hid (show kernelR p M = K by rw [HR'.out, hK])
        have HKL := Lib.hid hkl
        obtain ⟨bo, hRA⟩ := hom.ra
        have HRA := Lib.hid hRA
        clear hK hkl hom hbk hkp hRA
        go_wp2_with (fail)
        go_ret
        exact ⟨A', c', bo, 0, by rw [HS.out, HKL.out]; rfl, by rw [HS.out, HKL.out]; exact HRA.out, HBW.out⟩
theorem kerM_rows (p : Int) (F : List (List Int)) (hs : List Nat) (l : Nat) : ∀ c, ∀ row ∈ kerM p F hs l c, row.length = l
  | 0 => by intro row h; simp [kerM] at h
  | c + 1 => by
    intro row h
    by_cases hc : c ∈ hs
    · rw [kerM_stay hc] at h; exact kerM_rows p F hs l c row h
    · rw [kerM_go hc] at h
      rcases List.mem_append.1 h with h | h
      · exact kerM_rows p F hs l c row h
      · simp at h; rw [h]; exact kerFill_len _ _ _ _ _ _
theorem kernelR_tot (p : Int) (M : List (List Int)) : tot (kernelR p M) ≤ 64 := by
  rcases h : matB p M
  · rw [kernelR_no h]; simp [tot]
  · rw [kernelR_yes h]
    obtain ⟨h1, h2, h3, h4, _⟩ := matB_true h
    obtain ⟨l0, hl0⟩ : ∃ l0, (M.headD []).length = l0 := ⟨_, rfl⟩
    rw [hl0] at h4 ⊢
    have ht := tot_rows (kerM p (elim p M l0).1 (elim p M l0).2 l0 l0) 8 (fun row hr => by rw [kerM_rows _ _ _ _ _ row hr]; omega)
    have hl := kerM_len_le p (elim p M l0).1 (elim p M l0).2 l0 l0
    omega
end Go.Proofs.Ytpelokdgjdljfab
