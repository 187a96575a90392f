/-
  The contracts of l20RecOf and l20Rec.
-/
import Derived.Test.YtllakclbgmingaaDrawRec
namespace Go.Proofs.Ytllakclbgmingaa
open Go.RowKit
set_option maxRecDepth 100000 in
set_option maxHeartbeats 4000000 in
theorem recOf_any (rb n c cb co N : Nat) (A : Option Addr) (p : Int) (most : Nat) (m : Int) (w : World) (h : Rd w rb A n c cb co N) (hN : N ≤ 900000) (hp : 0 ≤ p) (hp' : p ≤ 17) (hmost : most ≤ 6) (hm : 0 ≤ m) (hm' : m ≤ 1000000) :
    Calls Try.prog 58 #[.pointer (some ⟨rb, 0, none⟩), .int .i64 p, .int .i64 (most : Int), .int .i64 m] w (RecPost rb n c cb co (N + 40) 8 A w) := by
  have hrb := h.lt
  have hcb := fun hn => h.ltc hn
  have hmax : 1 ≤ max p 1 ∧ max p 1 ≤ 17 := by omega
  obtain ⟨W0, hW0⟩ : ∃ W0, (w.alloc (.cells #[.int .i64 0, .slice none 0 0, .slice none 0 0] 25)).alloc (.cells #[.int .i64 p, .slice none 0 0, .slice none 0 0] 25) = W0 := ⟨_, rfl⟩
  have hB0 : Below w.heap.size w W0 := by rw [← hW0]; exact ((Below.refl _ w).alloc (Nat.le_refl _) _).alloc (by simp) _
  have hs0 : W0.heap.size = w.heap.size + 2 := by rw [← hW0]; simp
  have hbw : BxW W0 (w.heap.size + 1) (.int .i64 p) (.slice none 0 0) (.slice none 0 0) := by
    have := BxW.new (w.alloc (.cells #[.int .i64 0, .slice none 0 0, .slice none 0 0] 25)) (.int .i64 p) (.slice none 0 0) (.slice none 0 0) 25
    rw [World.size_alloc] at this
    rw [← hW0]; exact this
  have hrw : BxW W0 w.heap.size (.int .i64 0) (.slice none 0 0) (.slice none 0 0) := by rw [← hW0]; exact (BxW.new w _ _ _ _).below (below_new _ _)
  have hD0 : DR w W0 rb A n c cb co N p none 0 0 [] none 0 0 [] := ⟨h.keep (keep_of_below hB0) (fun h => h) (fun _ h => h), hrw, hbw, World.ownsRow_nil _ _ _ _, World.ownsRow_nil _ _ _ _, .inl rfl, (keep_of_below hB0).mono (fun _ _ h => h.elim), hrb, hcb⟩
  rw [← hW0] at hD0
  have HD0 := Lib.hid hD0
  have HRB := Lib.hid hrb
  clear h hcb hbw hrw hD0 hB0 hs0 hrb hW0
  go_enter Try.func58, Try.ntmps58
  go_wp2_with (fail)
  have hD := HD0.out
  refine (pick_any rb n c cb co N A _ _ hD.rd (by omega)).mono ?_
  rintro e w1 ⟨j0, rfl, hj0, hR1, hK1⟩
  have hj0 := hj0 (by omega)
  have HD1 := Lib.hid (hD.pick hR1 hK1)
  clear hR1 hK1 hD
  go_wp2_with (fail)
  go_loopw [10] (fun i wr => ∃ (k q : Nat) (A1 : Option Addr) (c1 : Nat) (T : List Int) (A2 : Option Addr) (c2 : Nat) (F : List Int), k + q = j0 ∧ i = .int .i64 (k : Int) ∧ Hid (DR w wr rb A n c cb co (N + 1 + 2 * q) p A1 q c1 T A2 q c2 F)) (fun i _ => (intOf i).toNat)
  case atStart => exact ⟨j0, 0, _, _, _, _, _, _, by omega, rfl, HD1.out⟩
  case round =>
    obtain ⟨k, q, A1, c1, T, A2, c2, F, hkq, rfl, hd⟩ := hrel
    obtain ⟨wo, rfl⟩ : ∃ wo : World, wo = wr := ⟨_, rfl⟩
    obtain ⟨x0, x1, x2⟩ := hd.out.box.c
    have fz := hd.out.box.fz
    by_cases hk0 : 0 < k
    · go_wp2_with (fail)
      have HDd := Lib.hid hd.out.draw
      obtain ⟨d0, d1, d2⟩ := hd.out.draw.box.c
      go_region_law (first
        | (refine step_app_own rfl (.tmp 22) (.tmp 27) rfl rfl (w.heap.size + 2) A1 q c1 T rfl (HDp.out.own1 _) _ _ _ rfl (cellNew _ _ _) (by omega) (by simp; omega) ?_; intro q5 c5 w5 hO5 hK5 hq5; have hm5 := HDp.out.mid hK5 (fun g hg => (HDp.out.t.lt g hg).1); have z0 := hm5.c.1; have z1 := hm5.c.2.1; have z2 := hm5.c.2.2; have zf := hm5.fz; have HD5 := Lib.hid (HDp.out.app1 hO5 hK5 hq5); clear hO5 hK5 hq5 hm5)
        | (go_simp; go_at_call 47; refine (pick_any rb n c cb co _ A _ _ HDd.out.rd (by omega)).mono ?_; rintro e w2 ⟨j1, rfl, hj1, hR2, hK2⟩; have hj1 := hj1 (by omega); have hdp := HDd.out.pick hR2 hK2; have y0 := hdp.box.c.1; have y1 := hdp.box.c.2.1; have y2 := hdp.box.c.2.2; have hlt := hdp.lt; have HDp := Lib.hid hdp; clear hR2 hK2 hdp))
      all_goals
        clear x0 x1 x2 d0 d1 d2 y0 y1 y2 fz z0 z1 z2 zf hlt
        go_wp2_with (fail)
        all_goals
          generalize w5.setCell ⟨w.heap.size + 1, 1, none⟩ (.slice (some ⟨q5, 0, none⟩) (q + 1) c5) = W5 at HD5 ⊢
          obtain ⟨x0, x1, x2⟩ := HD5.out.box.c
          have fz := HD5.out.box.fz
          have HDd2 := Lib.hid HD5.out.draw
          obtain ⟨d0, d1, d2⟩ := HD5.out.draw.box.c
          go_region_law (first
            | (refine step_app_own rfl (.tmp 31) (.tmp 36) rfl rfl (w.heap.size + 2) A2 q c2 F rfl (HDq.out.own2 _) _ _ _ rfl (cellNew _ _ _) (by omega) (by simp; omega) ?_; intro q6 c6 w6 hO6 hK6 hq6; have hm6 := HDq.out.mid hK6 (fun g hg => (HDq.out.f.lt g hg).1); have z0 := hm6.c.1; have z1 := hm6.c.2.1; have z2 := hm6.c.2.2; have zf := hm6.fz; have HD6 := Lib.hid (HDq.out.app2 hO6 hK6 hq6); clear hO6 hK6 hq6 hm6)
            | (go_simp; go_at_call 47; refine (pick_any rb n c cb co _ A _ _ HDd2.out.rd (by omega)).mono ?_; rintro e w2' ⟨j2, rfl, hj2, hR2, hK2⟩; have hj2 := hj2 (by omega); have hdp := HDd2.out.pick hR2 hK2; have y0 := hdp.box.c.1; have y1 := hdp.box.c.2.1; have y2 := hdp.box.c.2.2; have hlt := hdp.lt; have HDq := Lib.hid hdp; clear hR2 hK2 hdp))
          all_goals
            clear x0 x1 x2 d0 d1 d2 y0 y1 y2 fz z0 z1 z2 zf hlt
            go_wp2_with (fail)
            go_roundw
            case rel => exact ⟨k - 1, q + 1, _, _, _, _, _, _, by omega, by go_num, by rw [show N + 1 + 2 * (q + 1) = N + 1 + 2 * q + 1 + 1 by omega]; exact HD6.out⟩
            case measure => simp [intOf]; omega
    · obtain rfl : k = 0 := by omega
      have hTl := hd.out.t.len
      have hFl := hd.out.f.len
      clear x0 x1 x2 fz
      go_wp2_with (fail)
      refine (odd_any0 rb n c cb co _ A m _ hd.out.rd (by omega) hm hm').mono ?_
      rintro e w2 ⟨b, rfl, _, hR2, hK2⟩
      have HD2 := Lib.hid (hd.out.pick hR2 hK2)
      clear hR2 hK2
      cases b
      · obtain ⟨x0, x1, x2⟩ := HD2.out.box.c
        obtain ⟨r0, r1, r2⟩ := HD2.out.res.c
        have rf := HD2.out.res.fz
        go_wp2_with (fail)
        refine bodyPost_ret (v := .agg #[.int .i64 p, .slice A1 q c1, .slice A2 q c2]) (by simp [results, Try.f58, go_sem, r0, r1, r2]) rfl ?_
        exact HD2.out.done (by omega) (by omega) (by omega) hp hp'
      · go_wp2_with (fail)
        refine (pick_any rb n c cb co _ A _ _ HD2.out.rd (by omega)).mono ?_
        rintro e w3 ⟨j3, rfl, hj3, hR3, hK3⟩
        have hj3 := hj3 (by omega)
        have HD3 := Lib.hid (HD2.out.pick hR3 hK3)
        clear hR3 hK3
        obtain ⟨x0, x1, x2⟩ := HD3.out.box.c
        have fz := HD3.out.box.fz
        have hlt := HD3.out.lt
        by_cases e0 : (j3 : Int) = 0
        · have hq0 : ((j3 : Int) == 0) = true := by simp [e0]
          go_wp2_with (at_builtin; refine wpList_app_own rfl (.tmp 58) (.tmp 59) rfl rfl (w.heap.size + 2) A2 q c2 F rfl (HD3.out.own2 _) _ _ _ rfl (cellNew _ _ _) (by omega) (by simp; omega) ?_)
          intro q6 c6 w6 hO6 hK6 hq6
          have hm6 := HD3.out.mid hK6 (fun g hg => (HD3.out.f.lt g hg).1)
          have HD6 := Lib.hid (HD3.out.app2 hO6 hK6 (by simpa using hq6))
          clear hO6 hK6 hq6 x0 x1 x2 fz
          obtain ⟨z0, z1, z2⟩ := hm6.c
          have zf := hm6.fz
          clear hm6
          obtain ⟨x0, x1, x2⟩ := HD6.out.box.c
          obtain ⟨r0, r1, r2⟩ := HD6.out.res.c
          have rf := HD6.out.res.fz
          go_wp2_with (fail)
          refine bodyPost_ret (v := .agg #[.int .i64 p, .slice A1 q c1, .slice (some ⟨q6, 0, none⟩) (q + 1) c6]) (by simp [results, Try.f58, go_sem, r0, r1, r2]) rfl ?_
          exact HD6.out.done (by omega) (by simp; omega) (by omega) hp hp'
        · have hq0 : ((j3 : Int) == 0) = false := by simp; omega
          by_cases e1 : (j3 : Int) = 1
          · have hq1 : ((j3 : Int) == 1) = true := by simp [e1]
            have HD6 := Lib.hid (HD3.out.prime 9)
            obtain ⟨x0', x1', x2'⟩ := HD6.out.box.c
            obtain ⟨r0', r1', r2'⟩ := HD6.out.res.c
            have rf' := HD6.out.res.fz
            obtain ⟨r0, r1, r2⟩ := HD3.out.res.c
            have rf := HD3.out.res.fz
            go_wp2_with (fail)
            refine bodyPost_ret (v := .agg #[.int .i64 9, .slice A1 q c1, .slice A2 q c2]) (by simp [results, Try.f58, go_sem, r0, r1, r2]) rfl ?_
            exact HD6.out.done (by omega) (by omega) (by omega) (by decide) (by decide)
          · have hq1 : ((j3 : Int) == 1) = false := by simp; omega
            go_wp2_with (at_builtin; refine wpList_app_own rfl (.tmp 45) (.tmp 47) rfl rfl (w.heap.size + 2) A1 q c1 T rfl (HD3.out.own1 _) _ _ _ rfl (cellNew _ _ _) (by omega) (by simp; omega) ?_)
            intro q6 c6 w6 hO6 hK6 hq6
            have hm6 := HD3.out.mid hK6 (fun g hg => (HD3.out.t.lt g hg).1)
            have HD6 := Lib.hid (HD3.out.app1 hO6 hK6 (by simpa using hq6))
            clear hO6 hK6 hq6 x0 x1 x2 fz
            obtain ⟨z0, z1, z2⟩ := hm6.c
            have zf := hm6.fz
            clear hm6
            obtain ⟨x0, x1, x2⟩ := HD6.out.box.c
            have fz := HD6.out.box.fz
            have hlt6 := HD6.out.lt
            go_wp2_with (at_builtin; refine wpList_app_own rfl (.tmp 51) (.tmp 52) rfl rfl (w.heap.size + 2) A2 q c2 F rfl (HD6.out.own2 _) 0 w6.heap.size 1 rfl (by simp [go_sem]) (by omega) (Nat.le_trans (Nat.succ_le_of_lt HD6.out.lt) (below_new _ _).size) ?_)
            intro q7 c7 w7 hO7 hK7 hq7
            have hm7 := HD6.out.mid hK7 (fun g hg => (HD6.out.f.lt g hg).1)
            have HD7 := Lib.hid (HD6.out.app2 hO7 hK7 (by simpa using hq7))
            clear hO7 hK7 hq7 x0 x1 x2 fz z0 z1 z2 zf
            obtain ⟨z0, z1, z2⟩ := hm7.c
            have zf := hm7.fz
            clear hm7
            obtain ⟨x0, x1, x2⟩ := HD7.out.box.c
            obtain ⟨r0, r1, r2⟩ := HD7.out.res.c
            have rf := HD7.out.res.fz
            go_wp2_with (fail)
            refine bodyPost_ret (v := .agg #[.int .i64 p, .slice (some ⟨q6, 0, none⟩) (q + 1) c6, .slice (some ⟨q7, 0, none⟩) (q + 1) c7]) (by simp [results, Try.f58, go_sem, r0, r1, r2]) rfl ?_
            exact HD7.out.done (by simp; omega) (by simp; omega) (by omega) hp hp'
theorem prime_any0 (rb n c cb co N : Nat) (A : Option Addr) (m : Int) (w : World) (h : Rd w rb A n c cb co N) (hN : N ≤ 999000) (hm : 0 ≤ m) (hm' : m ≤ 1000000) :
    Calls Try.prog 59 #[.pointer (some ⟨rb, 0, none⟩), .int .i64 m] w
      (PrimePost (fun p => 0 ≤ p ∧ p ≤ 17) fun w' => Rd w' rb A n c cb co (N + 2) ∧ Keep (· = rb) w w') := by
  have hrb := cell_lt h.c0
  simp only at hrb
  go_enter Try.func59, Try.ntmps59
  go_wp2_with (go_at_call 76; refine (odd_any0 rb n c cb co N A _ _ h (by omega) hm hm').mono ?_; rintro e w1 ⟨b, rfl, _, hR, hK⟩; have hs := hK.size; rcases b)
  all_goals
    have hRx := fun o => hR.keep ((Keep.refl (fun _ => False) w1).alloc o) (fun h => h) (fun _ h => h)
    go_wp2_with (go_at_call 47; refine (pick_any rb n c cb co (N + 1) A _ _ (hRx _) (by omega)).mono ?_; rintro e w2 ⟨j, rfl, hj, hR2, hK2⟩; have hj := hj (by omega); first | (obtain ⟨q, hq0, hq1, hq⟩ := tab9 j (by omega); have hcell := made_cell hK2 (by omega) hq; clear hq) | (obtain ⟨q, hq0, hq1, hq⟩ := tab5 j (by omega); have hcell := made_cell hK2 (by omega) hq; clear hq))
    go_ret
    exact ⟨q, rfl, ⟨hq0, hq1⟩, hR2, hK.trans (((Keep.refl _ _).alloc _).trans hK2)⟩
set_option maxRecDepth 100000 in
set_option maxHeartbeats 1000000 in
theorem rec_any (rb n c cb co N : Nat) (A : Option Addr) (most : Nat) (m : Int) (w : World) (h : Rd w rb A n c cb co N) (hN : N ≤ 800000) (hmost : most ≤ 6) (hm : 0 ≤ m) (hm' : m ≤ 1000000) :
    Calls Try.prog 32 #[.pointer (some ⟨rb, 0, none⟩), .int .i64 (most : Int), .int .i64 m] w (RecPost rb n c cb co (N + 50) 8 A w) := by
  have HR := Lib.hid h
  have hrb := h.lt
  have hcb := fun hn => h.ltc hn
  have HCB := Lib.hid hcb
  have HW := Lib.hid (BxW.new w (.int .i64 0) (.slice none 0 0) (.slice none 0 0) 25)
  clear h hcb
  go_enter Try.func32, Try.ntmps32
  go_wp2_with (fail)
  refine (prime_any0 rb n c cb co N A _ _ (HR.out.alloc _) (by omega) (by decide) (by decide)).mono ?_
  rintro e w1 ⟨p, rfl, ⟨hp0, hp1⟩, hR1, hK1⟩
  have hs1 := hK1.size
  rw [World.size_alloc] at hs1
  have HW1 := Lib.hid (HW.out.keep hK1 (by omega))
  have HK1 := Lib.hid (((Keep.refl (Drw rb w.heap.size) w).alloc (.cells #[.int .i64 0, .slice none 0 0, .slice none 0 0] 25)).trans hK1.drwR)
  have HR1 := Lib.hid hR1
  clear hR1 hK1
  go_wp2_with (fail)
  refine (recOf_any rb n c cb co _ A p most m _ HR1.out (by omega) hp0 hp1 hmost hm hm').mono ?_
  rintro e w2 ⟨v, q, T, F, rfl, hO, hT, hF, hq0, hq1, hR2, hK2⟩
  have hlt1 := hK2.size
  have HW2 := Lib.hid (HW1.out.keep hK2 (fun hs => by rcases hs with hs | hs <;> omega))
  have HO := Lib.hid hO
  obtain ⟨A1, c1, A2, c2, rfl, hO1, hO2, hap⟩ := hO
  have HO1 := Lib.hid hO1
  have HO2 := Lib.hid hO2
  have HAP := Lib.hid hap
  have HR2 := Lib.hid hR2
  have HK2 := Lib.hid (HK1.out.trans (hK2.mono (fun _ _ hg => Or.elim hg .inl (fun h => .inr (by omega)))))
  clear hO1 hO2 hap hR2 hK2
  obtain ⟨r0, r1, r2⟩ := HW2.out.c
  have rf := HW2.out.fz
  go_wp2_with (fail)
  refine bodyPost_ret (v := .agg #[.int .i64 q, .slice A1 T.length c1, .slice A2 F.length c2]) (by simp [results, Try.f32, go_sem, r0, r1, r2]) rfl ?_
  have hk := set3_keep w2 w.heap.size (.int .i64 q) (.slice A1 T.length c1) (.slice A2 F.length c2)
  exact ⟨_, q, T, F, rfl, ⟨A1, c1, A2, c2, rfl, owns_mono (OIk HO1.out hk (fun g hg e => by have := (HO1.out.lt g hg).1; omega)) (by omega), owns_mono (OIk HO2.out hk (fun g hg e => by have := (HO2.out.lt g hg).1; omega)) (by omega), HAP.out⟩, hT, hF, hq0, hq1, (HR2.out.keep hk (by omega) (fun hn => by have := HCB.out hn; omega)).mono (by omega), HK2.out.trans (hk.drwB (fun g e => by omega))⟩
end Go.Proofs.Ytllakclbgmingaa
