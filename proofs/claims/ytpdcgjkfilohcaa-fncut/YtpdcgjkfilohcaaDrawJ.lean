import Derived.Test.YtpdcgjkfilohcaaDrawI
namespace Go.Proofs.Ytpdcgjkfilohcaa
open Go.RowKit
attribute [local go_sem ↓] Go.wp_at_zero Go.wp_at_succ

theorem takeD {P : Program} {md : Region.Mode} {ops : Array Oper} {Q : Exit → Act → World → Prop} {S : World → Prop} {i d : Nat} {oi : Oper} {v : Value} {fuel : Nat} {listed : Array Bool} {a : Act} {w : World} (hi : ops[i]? = some oi) (hd : oi.dst = some d)
    (hs : Region.noSelect ops = true) (hf : Region.free md ops listed i = true) (hr : (Region.ready md ops listed).contains i = true)
    (hQ : ∀ c a w, Q (.panic c) (a.put oi.dst v) w → Q (.panic c) a w) (hS : S w) (hy : YieldsIf P ops S oi v a)
    (h : wpAnyH P md ops Q S fuel (listed.setIfInBounds i true) (a.put (some d) v) w) : wpAnyH P md ops Q S (fuel + 1) listed a w :=
  wpAnyH_take hi hs hf hr hQ hy hS (by rw [hd]; exact h)

set_option maxRecDepth 100000 in
set_option maxHeartbeats 4000000 in
theorem spoilBox_any (d : Rdr) (p : Nat) (b : Bx) (w : World) (h : Rd d w p) (hp : p ≤ 900000) :
    Calls Try.prog 89 #[.pointer (some ⟨d.r, 0, none⟩), .agg #[.int .i64 b.x, .int .i64 b.y, .int .i64 b.l, .int .i64 b.h, .int .i64 b.i, .int .i64 b.o]] w fun e w' => (∃ b : Bx, e = .returned (.agg #[.int .i64 b.x, .int .i64 b.y, .int .i64 b.l, .int .i64 b.h, .int .i64 b.i, .int .i64 b.o])) ∧ (∃ p', Rd d w' p' ∧ p' ≤ p + 2) ∧ But d.r w w' := by
  have hr : d.r < w.heap.size := h.2.2.2.2.2.1
  have GG : Gr w ((w.alloc (.cells #[.int .i64 b.x, .int .i64 b.y, .int .i64 b.l, .int .i64 b.h, .int .i64 b.i, .int .i64 b.o] 36)).alloc (.cells #[.int .i64 0, .int .i64 0, .int .i64 0, .int .i64 0, .int .i64 0, .int .i64 0] 36)) := ((Gr.refl _).alloc _).alloc _
  have e1 : (w.alloc (.cells #[.int .i64 b.x, .int .i64 b.y, .int .i64 b.l, .int .i64 b.h, .int .i64 b.i, .int .i64 b.o] 36)).heap.size = w.heap.size + 1 := by simp
  have A : At3 d w w.heap.size (w.heap.size + 1) p b ((w.alloc (.cells #[.int .i64 b.x, .int .i64 b.y, .int .i64 b.l, .int .i64 b.h, .int .i64 b.i, .int .i64 b.o] 36)).alloc (.cells #[.int .i64 0, .int .i64 0, .int .i64 0, .int .i64 0, .int .i64 0, .int .i64 0] 36)) := by
    have hv := var_new (b := Bx.nil) (t := 36) (Gr.refl ((w.alloc (.cells #[.int .i64 b.x, .int .i64 b.y, .int .i64 b.l, .int .i64 b.h, .int .i64 b.i, .int .i64 b.o] 36)).alloc (.cells #[.int .i64 0, .int .i64 0, .int .i64 0, .int .i64 0, .int .i64 0, .int .i64 0] 36)))
    rw [e1] at hv
    exact ⟨⟨p, Nat.le_refl _, rd_gr h GG⟩, But.of_gr GG, var_gr (var_new (b := b) (Gr.refl _)) ((Gr.refl _).alloc _), ⟨Bx.nil, hv⟩, by omega, by omega, by omega⟩
  have R := rd_gr h GG
  clear h
  go_enter Try.func89, Try.ntmps89
  go_wp2_with fail
  refine (rd_pickB d _ _ _ R (by omega) (by omega) (by omega)).mono ?_
  rintro e w9 ⟨⟨x9, rfl, a0, a1⟩, R9, M9⟩
  replace A := at3_pick A R9 M9 hr (by omega)
  clear R R9 M9
  by_cases h0 : x9 = 0
  · have e0 : (x9 == 0) = true := by simp [h0]
    clear h0
    go_wp2_with fail
    obtain ⟨pp, hpp, hR⟩ := A.1
    refine (rd_pickB d _ _ _ (rd_gr hR ((Gr.refl _).alloc _)) (by omega) (by omega) (by omega)).mono ?_
    rintro e w10 ⟨⟨x10, rfl, b0, b1⟩, R10, M10⟩
    obtain ⟨k, rfl⟩ := Int.eq_ofNat_of_zero_le b0
    have hrw : d.r < w9.heap.size := Nat.lt_of_lt_of_le hr A.2.1.size
    obtain ⟨y, hy⟩ : ∃ y, w10.cell? ⟨w9.heap.size, k, none⟩ = some (.int .i64 y) := by
      have hc := M10.cell (q := w9.heap.size) (by simp) (by omega) k
      rcases (by omega : k = 0 ∨ k = 1 ∨ k = 2 ∨ k = 3) with rfl | rfl | rfl | rfl
      · exact ⟨(-1), hc.trans (by simp)⟩
      · exact ⟨16, hc.trans (by simp)⟩
      · exact ⟨(-9223372036854775808), hc.trans (by simp)⟩
      · exact ⟨9223372036854775807, hc.trans (by simp)⟩
    replace A := at3_pick (at3_gr A ((Gr.refl w9).alloc (.cells #[.int .i64 (-1), .int .i64 16, .int .i64 (-9223372036854775808), .int .i64 9223372036854775807] 3))) R10 M10 hr (by omega)
    clear hR R10 M10
    obtain ⟨b9, AA⟩ := at3_set 0 y A hr (by omega)
    have F := at3_fin (.int .i64 (y)) (.int .i64 (b.y)) (.int .i64 (b.l)) (.int .i64 (b.h)) (.int .i64 (b.i)) (.int .i64 (b.o)) AA hr
    have HF : Hid _ := F
    obtain ⟨hq, u0, u1, u2, u3, u4, u5, v0, v1, v2, v3, v4, v5⟩ := at3_q A
    obtain ⟨c, ht, t0, t1, t2, t3, t4, t5, y0, y1, y2, y3, y4, y5⟩ := at3_t A
    clear F AA A
    go_wp2
    refine bodyPost_ret (v := .agg #[.int .i64 (y), .int .i64 (b.y), .int .i64 (b.l), .int .i64 (b.h), .int .i64 (b.i), .int .i64 (b.o)]) (by simp [results, Try.results89, go_sem, *]) rfl ⟨⟨⟨y, b.y, b.l, b.h, b.i, b.o⟩, rfl⟩, ?_, HF.out.2⟩
    obtain ⟨p', hR', hp'⟩ := HF.out.1
    exact ⟨p', hR', by omega⟩
  have e0 : (x9 == 0) = false := by simp [h0]
  by_cases h1 : x9 = 1
  · have e1 : (x9 == 1) = true := by simp [h1]
    clear h0 h1
    go_wp2_with fail
    obtain ⟨pp, hpp, hR⟩ := A.1
    refine (rd_pickB d _ _ _ (rd_gr hR ((Gr.refl _).alloc _)) (by omega) (by omega) (by omega)).mono ?_
    rintro e w10 ⟨⟨x10, rfl, b0, b1⟩, R10, M10⟩
    obtain ⟨k, rfl⟩ := Int.eq_ofNat_of_zero_le b0
    have hrw : d.r < w9.heap.size := Nat.lt_of_lt_of_le hr A.2.1.size
    obtain ⟨y, hy⟩ : ∃ y, w10.cell? ⟨w9.heap.size, k, none⟩ = some (.int .i64 y) := by
      have hc := M10.cell (q := w9.heap.size) (by simp) (by omega) k
      rcases (by omega : k = 0 ∨ k = 1) with rfl | rfl
      · exact ⟨(-1), hc.trans (by simp)⟩
      · exact ⟨16, hc.trans (by simp)⟩
    replace A := at3_pick (at3_gr A ((Gr.refl w9).alloc (.cells #[.int .i64 (-1), .int .i64 16] 3))) R10 M10 hr (by omega)
    clear hR R10 M10
    obtain ⟨b9, AA⟩ := at3_set 1 y A hr (by omega)
    have F := at3_fin (.int .i64 (b.x)) (.int .i64 (y)) (.int .i64 (b.l)) (.int .i64 (b.h)) (.int .i64 (b.i)) (.int .i64 (b.o)) AA hr
    have HF : Hid _ := F
    obtain ⟨hq, u0, u1, u2, u3, u4, u5, v0, v1, v2, v3, v4, v5⟩ := at3_q A
    obtain ⟨c, ht, t0, t1, t2, t3, t4, t5, y0, y1, y2, y3, y4, y5⟩ := at3_t A
    clear F AA A
    go_wp2
    refine bodyPost_ret (v := .agg #[.int .i64 (b.x), .int .i64 (y), .int .i64 (b.l), .int .i64 (b.h), .int .i64 (b.i), .int .i64 (b.o)]) (by simp [results, Try.results89, go_sem, *]) rfl ⟨⟨⟨b.x, y, b.l, b.h, b.i, b.o⟩, rfl⟩, ?_, HF.out.2⟩
    obtain ⟨p', hR', hp'⟩ := HF.out.1
    exact ⟨p', hR', by omega⟩
  have e1 : (x9 == 1) = false := by simp [h1]
  by_cases h2 : x9 = 2
  · have e2 : (x9 == 2) = true := by simp [h2]
    clear h0 h1 h2
    go_upto_region 8 with fail
    obtain ⟨hq, u0, u1, u2, u3, u4, u5, v0, v1, v2, v3, v4, v5⟩ := at3_q A
    obtain ⟨pp, hpp, hR⟩ := A.1
    have hrw : d.r < w9.heap.size := Nat.lt_of_lt_of_le hr A.2.1.size
    have hH : w9.drew.cell? ⟨w.heap.size, 3, none⟩ = some (.int .i64 b.h) := u3
    refine wp_region_held (S := fun w' => w'.cell? ⟨w.heap.size, 3, none⟩ = some (.int .i64 b.h)) (by kernel_rfl) ?_
    change wpAnyH _ _ _ _ _ _ _ _ (World.drew _)
    refine takeD (i := 0) (d := 31) (v := .pointer (some ⟨w.heap.size, 3, none⟩)) rfl rfl (by kernel_rfl) (by kernel_rfl) (by kernel_rfl) (fun _ _ _ h => h) hH (Or.inl ⟨by rfl, by intro w' hSw; (try dsimp only at hSw); go_simp⟩) ?_
    simp only [Act.put, List.setIfInBounds_toArray, List.set_cons_zero, List.set_cons_succ]
    refine takeD (i := 1) (d := 32) (v := .int .i64 b.h) rfl rfl (by kernel_rfl) (by kernel_rfl) (by kernel_rfl) (fun _ _ _ h => h) hH (Or.inl ⟨by rfl, by intro w' hSw; (try dsimp only at hSw); go_simp⟩) ?_
    simp only [Act.put, List.setIfInBounds_toArray, List.set_cons_zero, List.set_cons_succ]
    refine takeD (i := 2) (d := 33) (v := .int .i64 (IntKind.i64.wrap (b.h + 1))) rfl rfl (by kernel_rfl) (by kernel_rfl) (by kernel_rfl) (fun _ _ _ h => h) hH (Or.inl ⟨by rfl, by intro w' hSw; (try dsimp only at hSw); go_simp⟩) ?_
    simp only [Act.put, List.setIfInBounds_toArray, List.set_cons_zero, List.set_cons_succ]
    refine takeD (i := 3) (d := 34) (v := .pointer (some ⟨w.heap.size, 3, none⟩)) rfl rfl (by kernel_rfl) (by kernel_rfl) (by kernel_rfl) (fun _ _ _ h => h) hH (Or.inl ⟨by rfl, by intro w' hSw; (try dsimp only at hSw); go_simp⟩) ?_
    simp only [Act.put, List.setIfInBounds_toArray, List.set_cons_zero, List.set_cons_succ]
    refine takeD (i := 4) (d := 35) (v := .int .i64 b.h) rfl rfl (by kernel_rfl) (by kernel_rfl) (by kernel_rfl) (fun _ _ _ h => h) hH (Or.inl ⟨by rfl, by intro w' hSw; (try dsimp only at hSw); go_simp⟩) ?_
    simp only [Act.put, List.setIfInBounds_toArray, List.set_cons_zero, List.set_cons_succ]
    refine takeD (i := 6) (d := 37) (v := .pointer (some ⟨d.r, 0, none⟩)) rfl rfl (by kernel_rfl) (by kernel_rfl) (by kernel_rfl) (fun _ _ _ h => h) hH (Or.inl ⟨by rfl, by intro w' hSw; (try dsimp only at hSw); go_simp⟩) ?_
    simp only [Act.put, List.setIfInBounds_toArray, List.set_cons_zero, List.set_cons_succ]
    refine wpAnyH_ready (rs := [5, 7]) (by kernel_rfl) (by simp) ?_
    refine AllReadyH.cons (o := _) rfl (fun K hK => ?_) (AllReadyH.cons (o := _) rfl (fun K hK => ?_) AllReadyH.nil)
    · go_simp
      refine hK.out _ _ (by (try dsimp only); exact (((Gr.refl w9).alloc (.cells #[.int .i64 (-1), .int .i64 (IntKind.i64.wrap (b.h + 1)), .int .i64 b.h] 3)).cells.1 _ _ hq).trans u3) (fun hH => ?_)
      clear hK K
      (try simp only [Act.put, List.setIfInBounds_toArray, List.set_cons_zero, List.set_cons_succ])
      have A1 := at3_gr A ((Gr.refl w9).alloc (.cells #[.int .i64 (-1), .int .i64 (IntKind.i64.wrap (b.h + 1)), .int .i64 b.h] 3)).drew
      obtain ⟨pp1, hpp1, hR1⟩ := A1.1
      refine wpAnyH_ready (rs := [7]) (by kernel_rfl) (by simp) ?_
      refine AllReadyH.cons (o := _) rfl (fun K hK => ?_) AllReadyH.nil
      go_simp
      refine (rd_pickB d _ _ _ hR1 (by omega) (by omega) (by omega)).mono ?_
      rintro e w10 ⟨⟨x10, rfl, b0, b1⟩, R10, M10⟩
      dsimp only
      have hq1 : w.heap.size < (w9.alloc (.cells #[.int .i64 (-1), .int .i64 (IntKind.i64.wrap (b.h + 1)), .int .i64 b.h] 3)).drew.heap.size := Nat.lt_of_lt_of_le hq ((Gr.refl w9).alloc (.cells #[.int .i64 (-1), .int .i64 (IntKind.i64.wrap (b.h + 1)), .int .i64 b.h] 3)).drew.size
      refine hK.out _ _ (by (try dsimp only); exact (M10.cell hq1 (by omega) 3).trans hH) (fun hH => ?_)
      clear hK K
      (try simp only [Act.put, List.setIfInBounds_toArray, List.set_cons_zero, List.set_cons_succ])
      obtain ⟨k, rfl⟩ := Int.eq_ofNat_of_zero_le b0
      obtain ⟨y, hy⟩ : ∃ y, w10.cell? ⟨w9.heap.size, k, none⟩ = some (.int .i64 y) := by
        have hc := M10.cell (q := w9.heap.size) (by simp) (by omega) k
        rcases (by omega : k = 0 ∨ k = 1 ∨ k = 2) with rfl | rfl | rfl
        · exact ⟨(-1), hc.trans (by simp)⟩
        · exact ⟨(IntKind.i64.wrap (b.h + 1)), hc.trans (by simp)⟩
        · exact ⟨b.h, hc.trans (by simp)⟩
      have A' := at3_pick A1 R10 M10 hr (by omega)
      clear A1 hR1 R10 M10
      refine wpAnyH_ready (rs := [8]) (by kernel_rfl) (by simp) ?_
      refine AllReadyH.cons (o := _) rfl (fun K hK => ?_) AllReadyH.nil
      go_simp
      refine hK.out _ _ hH (fun hH => ?_)
      clear hK K
      (try simp only [Act.put, List.setIfInBounds_toArray, List.set_cons_zero, List.set_cons_succ])
      refine wpAnyH_ready (rs := [9]) (by kernel_rfl) (by simp) ?_
      refine AllReadyH.cons (o := _) rfl (fun K hK => ?_) AllReadyH.nil
      go_simp
      refine hK.out _ _ hH (fun hH => ?_)
      clear hK K
      (try simp only [Act.put, List.setIfInBounds_toArray, List.set_cons_zero, List.set_cons_succ])
      refine takeD (i := 10) (d := 41) (v := .pointer (some ⟨w.heap.size, 2, none⟩)) rfl rfl (by kernel_rfl) (by kernel_rfl) (by kernel_rfl) (fun _ _ _ h => h) hH (Or.inl ⟨by rfl, by intro w' hSw; (try dsimp only at hSw); go_simp⟩) ?_
      simp only [Act.put, List.setIfInBounds_toArray, List.set_cons_zero, List.set_cons_succ]
      have UU := at3_q A'
      obtain ⟨hq', uu0, uu1, uu2, uu3, uu4, uu5, vv0, vv1, vv2, vv3, vv4, vv5⟩ := UU
      refine wpAnyH_ready (rs := [11]) (by kernel_rfl) (by simp) ?_
      refine AllReadyH.cons (o := _) rfl (fun K hK => ?_) AllReadyH.nil
      go_simp
      refine hK.out _ _ (by (try dsimp only); exact (cell_off _ _ _ _ _ _ (by omega)).trans hH) (fun hH => ?_)
      clear hK K
      (try simp only [Act.put, List.setIfInBounds_toArray, List.set_cons_zero, List.set_cons_succ])
      refine wpAnyH_done (by kernel_rfl) ?_ _
      obtain ⟨b9, AA⟩ := at3_set 2 y A' hr (by omega)
      have F := at3_fin (.int .i64 b9.x) (.int .i64 b9.y) (.int .i64 b9.l) (.int .i64 b9.h) (.int .i64 b9.i) (.int .i64 b9.o) AA hr
      have HF : Hid _ := F
      clear uu0 uu1 uu2 uu3 uu4 uu5 vv0 vv1 vv2 vv3 vv4 vv5 u0 u1 u2 u3 u4 u5 v0 v1 v2 v3 v4 v5 hH hy
      obtain ⟨hqq, u0, u1, u2, u3, u4, u5, v0, v1, v2, v3, v4, v5⟩ := at3_q AA
      obtain ⟨c, ht, t0, t1, t2, t3, t4, t5, y0, y1, y2, y3, y4, y5⟩ := at3_t AA
      clear F AA A A'
      go_wp2
      refine bodyPost_ret (v := .agg #[.int .i64 b9.x, .int .i64 b9.y, .int .i64 b9.l, .int .i64 b9.h, .int .i64 b9.i, .int .i64 b9.o]) (by simp [results, Try.results89, go_sem, *]) rfl ⟨⟨b9, rfl⟩, ?_, HF.out.2⟩
      obtain ⟨p', hR', hp'⟩ := HF.out.1
      exact ⟨p', hR', by omega⟩
    · go_simp
      refine (rd_pickB d _ _ _ (rd_gr hR (Gr.refl _).drew) (by omega) (by omega) (by omega)).mono ?_
      rintro e w10 ⟨⟨x10, rfl, b0, b1⟩, R10, M10⟩
      dsimp only
      refine hK.out _ _ (by (try dsimp only); exact (M10.cell (q := w.heap.size) hq (by omega) 3).trans u3) (fun hH => ?_)
      clear hK K
      (try simp only [Act.put, List.setIfInBounds_toArray, List.set_cons_zero, List.set_cons_succ])
      have hH0 := hH
      have A1 := at3_pick (at3_gr A (Gr.refl w9).drew) R10 M10 hr (by omega)
      have hq1 : w.heap.size < w10.heap.size := (at3_q A1).1
      obtain ⟨k, rfl⟩ := Int.eq_ofNat_of_zero_le b0
      refine wpAnyH_ready (rs := [5]) (by kernel_rfl) (by simp) ?_
      refine AllReadyH.cons (o := _) rfl (fun K hK => ?_) AllReadyH.nil
      go_simp
      refine hK.out _ _ (by (try dsimp only); exact (((Gr.refl w10).alloc (.cells #[.int .i64 (-1), .int .i64 (IntKind.i64.wrap (b.h + 1)), .int .i64 b.h] 3)).cells.1 _ _ hq1).trans hH) (fun hH => ?_)
      clear hK K
      (try simp only [Act.put, List.setIfInBounds_toArray, List.set_cons_zero, List.set_cons_succ])
      obtain ⟨y, hy⟩ : ∃ y, (w10.alloc (.cells #[.int .i64 (-1), .int .i64 (IntKind.i64.wrap (b.h + 1)), .int .i64 b.h] 3)).cell? ⟨w10.heap.size, k, none⟩ = some (.int .i64 y) := by
        rcases (by omega : k = 0 ∨ k = 1 ∨ k = 2) with rfl | rfl | rfl
        · exact ⟨(-1), by simp⟩
        · exact ⟨(IntKind.i64.wrap (b.h + 1)), by simp⟩
        · exact ⟨b.h, by simp⟩
      have A' := at3_gr A1 ((Gr.refl w10).alloc (.cells #[.int .i64 (-1), .int .i64 (IntKind.i64.wrap (b.h + 1)), .int .i64 b.h] 3))
      clear R10 M10
      refine wpAnyH_ready (rs := [8]) (by kernel_rfl) (by simp) ?_
      refine AllReadyH.cons (o := _) rfl (fun K hK => ?_) AllReadyH.nil
      go_simp
      refine hK.out _ _ hH (fun hH => ?_)
      clear hK K
      (try simp only [Act.put, List.setIfInBounds_toArray, List.set_cons_zero, List.set_cons_succ])
      refine wpAnyH_ready (rs := [9]) (by kernel_rfl) (by simp) ?_
      refine AllReadyH.cons (o := _) rfl (fun K hK => ?_) AllReadyH.nil
      go_simp
      refine hK.out _ _ hH (fun hH => ?_)
      clear hK K
      (try simp only [Act.put, List.setIfInBounds_toArray, List.set_cons_zero, List.set_cons_succ])
      refine takeD (i := 10) (d := 41) (v := .pointer (some ⟨w.heap.size, 2, none⟩)) rfl rfl (by kernel_rfl) (by kernel_rfl) (by kernel_rfl) (fun _ _ _ h => h) hH (Or.inl ⟨by rfl, by intro w' hSw; (try dsimp only at hSw); go_simp⟩) ?_
      simp only [Act.put, List.setIfInBounds_toArray, List.set_cons_zero, List.set_cons_succ]
      have UU := at3_q A'
      obtain ⟨hq', uu0, uu1, uu2, uu3, uu4, uu5, vv0, vv1, vv2, vv3, vv4, vv5⟩ := UU
      refine wpAnyH_ready (rs := [11]) (by kernel_rfl) (by simp) ?_
      refine AllReadyH.cons (o := _) rfl (fun K hK => ?_) AllReadyH.nil
      go_simp
      refine hK.out _ _ (by (try dsimp only); exact (((Gr.refl _).alloc _).cells.1 _ _ (by rw [World.size_setCell]; exact hq1)).trans ((cell_off _ _ _ _ _ _ (by omega)).trans hH0)) (fun hH => ?_)
      clear hK K
      (try simp only [Act.put, List.setIfInBounds_toArray, List.set_cons_zero, List.set_cons_succ])
      refine wpAnyH_done (by kernel_rfl) ?_ _
      obtain ⟨b9, AA0⟩ := at3_set 2 y A1 hr (by omega)
      have F := at3_fin (.int .i64 (b.x)) (.int .i64 (b.y)) (.int .i64 (y)) (.int .i64 (b.h)) (.int .i64 (b.i)) (.int .i64 (b.o)) AA0 hr
      obtain ⟨⟨p', hR', hp'⟩, hB'⟩ := F
      have HF : Hid (∀ o : Obj, _ ∧ _) := fun o => And.intro (rd_gr hR' ((Gr.refl _).alloc o)) (hB'.trans (But.of_gr ((Gr.refl _).alloc o)))
      clear hR' hB' uu0 uu1 uu2 uu3 uu4 uu5 vv0 vv1 vv2 vv3 vv4 vv5 u0 u1 u2 u3 u4 u5 v0 v1 v2 v3 v4 v5 hH hH0 hy AA0
      obtain ⟨hqq, u0, u1, u2, u3, u4, u5, v0, v1, v2, v3, v4, v5⟩ := at3_q A1
      obtain ⟨c, ht, t0, t1, t2, t3, t4, t5, y0, y1, y2, y3, y4, y5⟩ := at3_t A1
      clear A A' A1
      go_wp2
      refine bodyPost_ret (v := .agg #[.int .i64 (b.x), .int .i64 (b.y), .int .i64 (y), .int .i64 (b.h), .int .i64 (b.i), .int .i64 (b.o)]) (by simp [results, Try.results89, go_sem, *]) rfl ⟨⟨⟨b.x, b.y, y, b.h, b.i, b.o⟩, rfl⟩, ⟨p', (HF.out _).1, by omega⟩, (HF.out _).2⟩
  have e2 : (x9 == 2) = false := by simp [h2]
  by_cases h3 : x9 = 3
  · have e3 : (x9 == 3) = true := by simp [h3]
    clear h0 h1 h2 h3
    go_wp2_with fail
    obtain ⟨pp, hpp, hR⟩ := A.1
    refine (rd_pickB d _ _ _ (rd_gr hR ((Gr.refl _).alloc _)) (by omega) (by omega) (by omega)).mono ?_
    rintro e w10 ⟨⟨x10, rfl, b0, b1⟩, R10, M10⟩
    obtain ⟨k, rfl⟩ := Int.eq_ofNat_of_zero_le b0
    have hrw : d.r < w9.heap.size := Nat.lt_of_lt_of_le hr A.2.1.size
    obtain ⟨y, hy⟩ : ∃ y, w10.cell? ⟨w9.heap.size, k, none⟩ = some (.int .i64 y) := by
      have hc := M10.cell (q := w9.heap.size) (by simp) (by omega) k
      rcases (by omega : k = 0 ∨ k = 1) with rfl | rfl
      · exact ⟨6, hc.trans (by simp)⟩
      · exact ⟨7, hc.trans (by simp)⟩
    replace A := at3_pick (at3_gr A ((Gr.refl w9).alloc (.cells #[.int .i64 6, .int .i64 7] 3))) R10 M10 hr (by omega)
    clear hR R10 M10
    obtain ⟨b9, AA⟩ := at3_set 3 y A hr (by omega)
    have F := at3_fin (.int .i64 (b.x)) (.int .i64 (b.y)) (.int .i64 (b.l)) (.int .i64 (y)) (.int .i64 (b.i)) (.int .i64 (b.o)) AA hr
    have HF : Hid _ := F
    obtain ⟨hq, u0, u1, u2, u3, u4, u5, v0, v1, v2, v3, v4, v5⟩ := at3_q A
    obtain ⟨c, ht, t0, t1, t2, t3, t4, t5, y0, y1, y2, y3, y4, y5⟩ := at3_t A
    clear F AA A
    go_wp2
    refine bodyPost_ret (v := .agg #[.int .i64 (b.x), .int .i64 (b.y), .int .i64 (b.l), .int .i64 (y), .int .i64 (b.i), .int .i64 (b.o)]) (by simp [results, Try.results89, go_sem, *]) rfl ⟨⟨⟨b.x, b.y, b.l, y, b.i, b.o⟩, rfl⟩, ?_, HF.out.2⟩
    obtain ⟨p', hR', hp'⟩ := HF.out.1
    exact ⟨p', hR', by omega⟩
  have e3 : (x9 == 3) = false := by simp [h3]
  by_cases h4 : x9 = 4
  · have e4 : (x9 == 4) = true := by simp [h4]
    clear h0 h1 h2 h3 h4
    go_upto_region 12 with fail
    obtain ⟨hq, u0, u1, u2, u3, u4, u5, v0, v1, v2, v3, v4, v5⟩ := at3_q A
    obtain ⟨pp, hpp, hR⟩ := A.1
    have hrw : d.r < w9.heap.size := Nat.lt_of_lt_of_le hr A.2.1.size
    have hH : w9.drew.cell? ⟨w.heap.size, 5, none⟩ = some (.int .i64 b.o) := u5
    refine wp_region_held (S := fun w' => w'.cell? ⟨w.heap.size, 5, none⟩ = some (.int .i64 b.o)) (by kernel_rfl) ?_
    change wpAnyH _ _ _ _ _ _ _ _ (World.drew _)
    refine takeD (i := 0) (d := 52) (v := .pointer (some ⟨w.heap.size, 5, none⟩)) rfl rfl (by kernel_rfl) (by kernel_rfl) (by kernel_rfl) (fun _ _ _ h => h) hH (Or.inl ⟨by rfl, by intro w' hSw; (try dsimp only at hSw); go_simp⟩) ?_
    simp only [Act.put, List.setIfInBounds_toArray, List.set_cons_zero, List.set_cons_succ]
    refine takeD (i := 1) (d := 53) (v := .int .i64 b.o) rfl rfl (by kernel_rfl) (by kernel_rfl) (by kernel_rfl) (fun _ _ _ h => h) hH (Or.inl ⟨by rfl, by intro w' hSw; (try dsimp only at hSw); go_simp⟩) ?_
    simp only [Act.put, List.setIfInBounds_toArray, List.set_cons_zero, List.set_cons_succ]
    refine takeD (i := 2) (d := 54) (v := .pointer (some ⟨w.heap.size, 5, none⟩)) rfl rfl (by kernel_rfl) (by kernel_rfl) (by kernel_rfl) (fun _ _ _ h => h) hH (Or.inl ⟨by rfl, by intro w' hSw; (try dsimp only at hSw); go_simp⟩) ?_
    simp only [Act.put, List.setIfInBounds_toArray, List.set_cons_zero, List.set_cons_succ]
    refine takeD (i := 3) (d := 55) (v := .int .i64 b.o) rfl rfl (by kernel_rfl) (by kernel_rfl) (by kernel_rfl) (fun _ _ _ h => h) hH (Or.inl ⟨by rfl, by intro w' hSw; (try dsimp only at hSw); go_simp⟩) ?_
    simp only [Act.put, List.setIfInBounds_toArray, List.set_cons_zero, List.set_cons_succ]
    refine takeD (i := 4) (d := 56) (v := .int .i64 (IntKind.i64.wrap (b.o + 1))) rfl rfl (by kernel_rfl) (by kernel_rfl) (by kernel_rfl) (fun _ _ _ h => h) hH (Or.inl ⟨by rfl, by intro w' hSw; (try dsimp only at hSw); go_simp⟩) ?_
    simp only [Act.put, List.setIfInBounds_toArray, List.set_cons_zero, List.set_cons_succ]
    refine takeD (i := 6) (d := 58) (v := .pointer (some ⟨d.r, 0, none⟩)) rfl rfl (by kernel_rfl) (by kernel_rfl) (by kernel_rfl) (fun _ _ _ h => h) hH (Or.inl ⟨by rfl, by intro w' hSw; (try dsimp only at hSw); go_simp⟩) ?_
    simp only [Act.put, List.setIfInBounds_toArray, List.set_cons_zero, List.set_cons_succ]
    refine wpAnyH_ready (rs := [5, 7]) (by kernel_rfl) (by simp) ?_
    refine AllReadyH.cons (o := _) rfl (fun K hK => ?_) (AllReadyH.cons (o := _) rfl (fun K hK => ?_) AllReadyH.nil)
    · go_simp
      refine hK.out _ _ (by (try dsimp only); exact (((Gr.refl w9).alloc (.cells #[.int .i64 (-1), .int .i64 b.o, .int .i64 (IntKind.i64.wrap (b.o + 1))] 3)).cells.1 _ _ hq).trans u5) (fun hH => ?_)
      clear hK K
      (try simp only [Act.put, List.setIfInBounds_toArray, List.set_cons_zero, List.set_cons_succ])
      have A1 := at3_gr A ((Gr.refl w9).alloc (.cells #[.int .i64 (-1), .int .i64 b.o, .int .i64 (IntKind.i64.wrap (b.o + 1))] 3)).drew
      obtain ⟨pp1, hpp1, hR1⟩ := A1.1
      refine wpAnyH_ready (rs := [7]) (by kernel_rfl) (by simp) ?_
      refine AllReadyH.cons (o := _) rfl (fun K hK => ?_) AllReadyH.nil
      go_simp
      refine (rd_pickB d _ _ _ hR1 (by omega) (by omega) (by omega)).mono ?_
      rintro e w10 ⟨⟨x10, rfl, b0, b1⟩, R10, M10⟩
      dsimp only
      have hq1 : w.heap.size < (w9.alloc (.cells #[.int .i64 (-1), .int .i64 b.o, .int .i64 (IntKind.i64.wrap (b.o + 1))] 3)).drew.heap.size := Nat.lt_of_lt_of_le hq ((Gr.refl w9).alloc (.cells #[.int .i64 (-1), .int .i64 b.o, .int .i64 (IntKind.i64.wrap (b.o + 1))] 3)).drew.size
      refine hK.out _ _ (by (try dsimp only); exact (M10.cell hq1 (by omega) 5).trans hH) (fun hH => ?_)
      clear hK K
      (try simp only [Act.put, List.setIfInBounds_toArray, List.set_cons_zero, List.set_cons_succ])
      obtain ⟨k, rfl⟩ := Int.eq_ofNat_of_zero_le b0
      obtain ⟨y, hy⟩ : ∃ y, w10.cell? ⟨w9.heap.size, k, none⟩ = some (.int .i64 y) := by
        have hc := M10.cell (q := w9.heap.size) (by simp) (by omega) k
        rcases (by omega : k = 0 ∨ k = 1 ∨ k = 2) with rfl | rfl | rfl
        · exact ⟨(-1), hc.trans (by simp)⟩
        · exact ⟨b.o, hc.trans (by simp)⟩
        · exact ⟨(IntKind.i64.wrap (b.o + 1)), hc.trans (by simp)⟩
      have A' := at3_pick A1 R10 M10 hr (by omega)
      clear A1 hR1 R10 M10
      refine wpAnyH_ready (rs := [8]) (by kernel_rfl) (by simp) ?_
      refine AllReadyH.cons (o := _) rfl (fun K hK => ?_) AllReadyH.nil
      go_simp
      refine hK.out _ _ hH (fun hH => ?_)
      clear hK K
      (try simp only [Act.put, List.setIfInBounds_toArray, List.set_cons_zero, List.set_cons_succ])
      refine wpAnyH_ready (rs := [9]) (by kernel_rfl) (by simp) ?_
      refine AllReadyH.cons (o := _) rfl (fun K hK => ?_) AllReadyH.nil
      go_simp
      refine hK.out _ _ hH (fun hH => ?_)
      clear hK K
      (try simp only [Act.put, List.setIfInBounds_toArray, List.set_cons_zero, List.set_cons_succ])
      refine takeD (i := 10) (d := 62) (v := .pointer (some ⟨w.heap.size, 4, none⟩)) rfl rfl (by kernel_rfl) (by kernel_rfl) (by kernel_rfl) (fun _ _ _ h => h) hH (Or.inl ⟨by rfl, by intro w' hSw; (try dsimp only at hSw); go_simp⟩) ?_
      simp only [Act.put, List.setIfInBounds_toArray, List.set_cons_zero, List.set_cons_succ]
      have UU := at3_q A'
      obtain ⟨hq', uu0, uu1, uu2, uu3, uu4, uu5, vv0, vv1, vv2, vv3, vv4, vv5⟩ := UU
      refine wpAnyH_ready (rs := [11]) (by kernel_rfl) (by simp) ?_
      refine AllReadyH.cons (o := _) rfl (fun K hK => ?_) AllReadyH.nil
      go_simp
      refine hK.out _ _ (by (try dsimp only); exact (cell_off _ _ _ _ _ _ (by omega)).trans hH) (fun hH => ?_)
      clear hK K
      (try simp only [Act.put, List.setIfInBounds_toArray, List.set_cons_zero, List.set_cons_succ])
      refine wpAnyH_done (by kernel_rfl) ?_ _
      obtain ⟨b9, AA⟩ := at3_set 4 y A' hr (by omega)
      have F := at3_fin (.int .i64 b9.x) (.int .i64 b9.y) (.int .i64 b9.l) (.int .i64 b9.h) (.int .i64 b9.i) (.int .i64 b9.o) AA hr
      have HF : Hid _ := F
      clear uu0 uu1 uu2 uu3 uu4 uu5 vv0 vv1 vv2 vv3 vv4 vv5 u0 u1 u2 u3 u4 u5 v0 v1 v2 v3 v4 v5 hH hy
      obtain ⟨hqq, u0, u1, u2, u3, u4, u5, v0, v1, v2, v3, v4, v5⟩ := at3_q AA
      obtain ⟨c, ht, t0, t1, t2, t3, t4, t5, y0, y1, y2, y3, y4, y5⟩ := at3_t AA
      clear F AA A A'
      go_wp2
      refine bodyPost_ret (v := .agg #[.int .i64 b9.x, .int .i64 b9.y, .int .i64 b9.l, .int .i64 b9.h, .int .i64 b9.i, .int .i64 b9.o]) (by simp [results, Try.results89, go_sem, *]) rfl ⟨⟨b9, rfl⟩, ?_, HF.out.2⟩
      obtain ⟨p', hR', hp'⟩ := HF.out.1
      exact ⟨p', hR', by omega⟩
    · go_simp
      refine (rd_pickB d _ _ _ (rd_gr hR (Gr.refl _).drew) (by omega) (by omega) (by omega)).mono ?_
      rintro e w10 ⟨⟨x10, rfl, b0, b1⟩, R10, M10⟩
      dsimp only
      refine hK.out _ _ (by (try dsimp only); exact (M10.cell (q := w.heap.size) hq (by omega) 5).trans u5) (fun hH => ?_)
      clear hK K
      (try simp only [Act.put, List.setIfInBounds_toArray, List.set_cons_zero, List.set_cons_succ])
      have hH0 := hH
      have A1 := at3_pick (at3_gr A (Gr.refl w9).drew) R10 M10 hr (by omega)
      have hq1 : w.heap.size < w10.heap.size := (at3_q A1).1
      obtain ⟨k, rfl⟩ := Int.eq_ofNat_of_zero_le b0
      refine wpAnyH_ready (rs := [5]) (by kernel_rfl) (by simp) ?_
      refine AllReadyH.cons (o := _) rfl (fun K hK => ?_) AllReadyH.nil
      go_simp
      refine hK.out _ _ (by (try dsimp only); exact (((Gr.refl w10).alloc (.cells #[.int .i64 (-1), .int .i64 b.o, .int .i64 (IntKind.i64.wrap (b.o + 1))] 3)).cells.1 _ _ hq1).trans hH) (fun hH => ?_)
      clear hK K
      (try simp only [Act.put, List.setIfInBounds_toArray, List.set_cons_zero, List.set_cons_succ])
      obtain ⟨y, hy⟩ : ∃ y, (w10.alloc (.cells #[.int .i64 (-1), .int .i64 b.o, .int .i64 (IntKind.i64.wrap (b.o + 1))] 3)).cell? ⟨w10.heap.size, k, none⟩ = some (.int .i64 y) := by
        rcases (by omega : k = 0 ∨ k = 1 ∨ k = 2) with rfl | rfl | rfl
        · exact ⟨(-1), by simp⟩
        · exact ⟨b.o, by simp⟩
        · exact ⟨(IntKind.i64.wrap (b.o + 1)), by simp⟩
      have A' := at3_gr A1 ((Gr.refl w10).alloc (.cells #[.int .i64 (-1), .int .i64 b.o, .int .i64 (IntKind.i64.wrap (b.o + 1))] 3))
      clear R10 M10
      refine wpAnyH_ready (rs := [8]) (by kernel_rfl) (by simp) ?_
      refine AllReadyH.cons (o := _) rfl (fun K hK => ?_) AllReadyH.nil
      go_simp
      refine hK.out _ _ hH (fun hH => ?_)
      clear hK K
      (try simp only [Act.put, List.setIfInBounds_toArray, List.set_cons_zero, List.set_cons_succ])
      refine wpAnyH_ready (rs := [9]) (by kernel_rfl) (by simp) ?_
      refine AllReadyH.cons (o := _) rfl (fun K hK => ?_) AllReadyH.nil
      go_simp
      refine hK.out _ _ hH (fun hH => ?_)
      clear hK K
      (try simp only [Act.put, List.setIfInBounds_toArray, List.set_cons_zero, List.set_cons_succ])
      refine takeD (i := 10) (d := 62) (v := .pointer (some ⟨w.heap.size, 4, none⟩)) rfl rfl (by kernel_rfl) (by kernel_rfl) (by kernel_rfl) (fun _ _ _ h => h) hH (Or.inl ⟨by rfl, by intro w' hSw; (try dsimp only at hSw); go_simp⟩) ?_
      simp only [Act.put, List.setIfInBounds_toArray, List.set_cons_zero, List.set_cons_succ]
      have UU := at3_q A'
      obtain ⟨hq', uu0, uu1, uu2, uu3, uu4, uu5, vv0, vv1, vv2, vv3, vv4, vv5⟩ := UU
      refine wpAnyH_ready (rs := [11]) (by kernel_rfl) (by simp) ?_
      refine AllReadyH.cons (o := _) rfl (fun K hK => ?_) AllReadyH.nil
      go_simp
      refine hK.out _ _ (by (try dsimp only); exact (((Gr.refl _).alloc _).cells.1 _ _ (by rw [World.size_setCell]; exact hq1)).trans ((cell_off _ _ _ _ _ _ (by omega)).trans hH0)) (fun hH => ?_)
      clear hK K
      (try simp only [Act.put, List.setIfInBounds_toArray, List.set_cons_zero, List.set_cons_succ])
      refine wpAnyH_done (by kernel_rfl) ?_ _
      obtain ⟨b9, AA0⟩ := at3_set 4 y A1 hr (by omega)
      have F := at3_fin (.int .i64 (b.x)) (.int .i64 (b.y)) (.int .i64 (b.l)) (.int .i64 (b.h)) (.int .i64 (y)) (.int .i64 (b.o)) AA0 hr
      obtain ⟨⟨p', hR', hp'⟩, hB'⟩ := F
      have HF : Hid (∀ o : Obj, _ ∧ _) := fun o => And.intro (rd_gr hR' ((Gr.refl _).alloc o)) (hB'.trans (But.of_gr ((Gr.refl _).alloc o)))
      clear hR' hB' uu0 uu1 uu2 uu3 uu4 uu5 vv0 vv1 vv2 vv3 vv4 vv5 u0 u1 u2 u3 u4 u5 v0 v1 v2 v3 v4 v5 hH hH0 hy AA0
      obtain ⟨hqq, u0, u1, u2, u3, u4, u5, v0, v1, v2, v3, v4, v5⟩ := at3_q A1
      obtain ⟨c, ht, t0, t1, t2, t3, t4, t5, y0, y1, y2, y3, y4, y5⟩ := at3_t A1
      clear A A' A1
      go_wp2
      refine bodyPost_ret (v := .agg #[.int .i64 (b.x), .int .i64 (b.y), .int .i64 (b.l), .int .i64 (b.h), .int .i64 (y), .int .i64 (b.o)]) (by simp [results, Try.results89, go_sem, *]) rfl ⟨⟨⟨b.x, b.y, b.l, b.h, y, b.o⟩, rfl⟩, ⟨p', (HF.out _).1, by omega⟩, (HF.out _).2⟩
  have e4 : (x9 == 4) = false := by simp [h4]
  clear h0 h1 h2 h3 h4
  go_wp2_with fail
  obtain ⟨pp, hpp, hR⟩ := A.1
  refine (rd_pickB d _ _ _ (rd_gr hR ((Gr.refl _).alloc _)) (by omega) (by omega) (by omega)).mono ?_
  rintro e w10 ⟨⟨x10, rfl, b0, b1⟩, R10, M10⟩
  obtain ⟨k, rfl⟩ := Int.eq_ofNat_of_zero_le b0
  have hrw : d.r < w9.heap.size := Nat.lt_of_lt_of_le hr A.2.1.size
  obtain ⟨y, hy⟩ : ∃ y, w10.cell? ⟨w9.heap.size, k, none⟩ = some (.int .i64 y) := by
    have hc := M10.cell (q := w9.heap.size) (by simp) (by omega) k
    rcases (by omega : k = 0 ∨ k = 1) with rfl | rfl
    · exact ⟨10000, hc.trans (by simp)⟩
    · exact ⟨10001, hc.trans (by simp)⟩
  replace A := at3_pick (at3_gr A ((Gr.refl w9).alloc (.cells #[.int .i64 10000, .int .i64 10001] 3))) R10 M10 hr (by omega)
  clear hR R10 M10
  obtain ⟨b9, AA⟩ := at3_set 5 y A hr (by omega)
  have F := at3_fin (.int .i64 (b.x)) (.int .i64 (b.y)) (.int .i64 (b.l)) (.int .i64 (b.h)) (.int .i64 (b.i)) (.int .i64 (y)) AA hr
  have HF : Hid _ := F
  obtain ⟨hq, u0, u1, u2, u3, u4, u5, v0, v1, v2, v3, v4, v5⟩ := at3_q A
  obtain ⟨c, ht, t0, t1, t2, t3, t4, t5, y0, y1, y2, y3, y4, y5⟩ := at3_t A
  clear F AA A
  go_wp2
  refine bodyPost_ret (v := .agg #[.int .i64 (b.x), .int .i64 (b.y), .int .i64 (b.l), .int .i64 (b.h), .int .i64 (b.i), .int .i64 (y)]) (by simp [results, Try.results89, go_sem, *]) rfl ⟨⟨⟨b.x, b.y, b.l, b.h, b.i, y⟩, rfl⟩, ?_, HF.out.2⟩
  obtain ⟨p', hR', hp'⟩ := HF.out.1
  exact ⟨p', hR', by omega⟩
end Go.Proofs.Ytpdcgjkfilohcaa
