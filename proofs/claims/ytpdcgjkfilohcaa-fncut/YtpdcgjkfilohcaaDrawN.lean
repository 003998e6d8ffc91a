import Derived.Test.YtpdcgjkfilohcaaDrawM
import Derived.Deep.CutBlock
namespace Go.Proofs.Ytpdcgjkfilohcaa
open Go.RowKit
attribute [local go_sem ↓] Go.wp_at_zero Go.wp_at_succ

set_option maxRecDepth 100000 in
set_option maxHeartbeats 4000000 in
theorem spoil_any : SpoilIs := by
  intro d p s v L w0 w h hp hs hL HO HV
  obtain ⟨i0, hi, hz0, hz1, hz2⟩ := info_parts Try.info36
  have hr : d.r < w.heap.size := h.2.2.2.2.2.1
  obtain ⟨av, cv, rfl, hro, hbx⟩ : ∃ av cv, v = .slice av L.length cv ∧ True ∧ Boxes w av L := by
    obtain ⟨a, c, e, -, hb⟩ := HO
    exact ⟨a, c, e, trivial, hb⟩
  have GG : Gr w ((w.alloc (.cells #[.string s, .slice av L.length cv] 25)).alloc (.cells #[.string ⟨#[]⟩, .slice none 0 0] 25)) := ((Gr.refl _).alloc _).alloc _
  have HC : Hid (((.slice av L.length cv : Value) = .slice none 0 0 ∧ L = []) ∨ ∃ g o c, (.slice av L.length cv : Value) = .slice (some ⟨g, o, none⟩) L.length c ∧ Boxes ((w.alloc (.cells #[.string s, .slice av L.length cv] 25)).alloc (.cells #[.string ⟨#[]⟩, .slice none 0 0] 25)) (some ⟨g, o, none⟩) L) := by
    rcases HV with e | ⟨g, c, e⟩
    · refine Or.inl ⟨e, ?_⟩
      have : L.length = 0 := by injection e
      exact List.length_eq_zero_iff.1 this
    · have e1 : av = some ⟨g, 0, none⟩ := by injection e
      refine Or.inr ⟨g, 0, c, e, ?_⟩
      rw [← e1]
      exact boxes_gr hbx GG
  have R := rd_gr h GG
  have PA : PairAt ((w.alloc (.cells #[.string s, .slice av L.length cv] 25)).alloc (.cells #[.string ⟨#[]⟩, .slice none 0 0] 25)) (w.heap.size + 1) := by
    have := pair_new (Gr.refl ((w.alloc (.cells #[.string s, .slice av L.length cv] 25)).alloc (.cells #[.string ⟨#[]⟩, .slice none 0 0] 25)))
    rw [World.size_alloc] at this
    exact this
  clear h HO HV hbx hro
  go_enter Try.func79, Try.ntmps79
  go_wp2_with fail
  refine (copy_any s _ L _ HC.out (by omega)).mono ?_
  rintro e w1 ⟨⟨v1, rfl, -, HR1⟩, G1⟩
  simp only [World.size_alloc] at HR1
  replace HR1 := owns_mono (b' := w.heap.size + 1 + 1) HR1 (by omega)
  obtain ⟨av1, cv1, hv1⟩ := owns_form HR1
  subst hv1
  have hs1 := G1.size
  simp only [World.size_alloc] at hs1
  have hb1 : (w.heap.size + 1 + 1) ≤ w1.heap.size := by omega
  have A : SA d w w1.heap.size (w.heap.size + 1 + 1) p L.length (w1.alloc (.cells #[.string s, .slice av1 L.length cv1] 25)) := by
    have hn := pair_new (Gr.refl (w1.alloc (.cells #[.string s, .slice av1 L.length cv1] 25)))
    refine ⟨⟨p, Nat.le_refl _, rd_gr R (G1.trans ((Gr.refl _).alloc _))⟩, But.of_gr ((GG.trans G1).trans ((Gr.refl _).alloc _)), pair_but (r := d.r) PA (But.of_gr (G1.trans ((Gr.refl _).alloc _))) (by omega), ⟨s, _, L, ⟨by simp, by simp, hn.2.2.2.1, hn.2.2.2.2, hn.1, HR1.alloc _⟩, rfl, fun e => ?_, hs⟩, by omega, hb1, hr⟩
    have := owns_lt HR1 _ e
    omega
  clear R PA HC GG G1 HR1
  go_wp2_with fail
  obtain ⟨pp, hpp, hR⟩ := A.1
  refine (rd_pickB d _ _ _ hR (by omega) (by omega) (by omega)).mono ?_
  rintro e w2 ⟨⟨x, rfl, x0, x1⟩, R2, M2⟩
  replace A := sa_but (P' := p + 1) A R2 M2 (by omega)
  clear hR R2 M2 hpp pp
  go_upto_block 0 with fail
  go_cut [] (fun wx => SF d w w1.heap.size (p + 1500) wx)
  case first =>
    by_cases hx0 : x = 0
    · have e0 : (x == 0) = true := by simp [hx0]
      clear hx0
      go_wp2_with fail
      obtain ⟨pp, hpp, hR⟩ := A.1
      refine (rd_pickB d _ _ _ hR (by omega) (by omega) (by omega)).mono ?_
      rintro e w3 ⟨⟨x3, rfl, y0, y1⟩, R3, M3⟩
      replace A := sa_but (P' := p + 2) A R3 M3 (by omega)
      clear hR R3 M3 hpp pp
      have HM : Hid (∀ w', Calls Try.prog 88 #[.string ⟨#[110]⟩, .int .i64 (8 + x3)] w' fun e w'' => (∃ t : ByteArray, e = .returned (.string t) ∧ t.size ≤ 64) ∧ w'' = w') := fun w' => by
        obtain rfl | rfl : x3 = 0 ∨ x3 = 1 := by omega
        · exact many_any ⟨#[110]⟩ 8 w' (by decide) (by omega)
        · exact many_any ⟨#[110]⟩ 9 w' (by decide) (by omega)
      go_wp2_with fail
      refine (HM.out _).mono ?_
      rintro e w3' ⟨⟨t, rfl, ht⟩, rfl⟩
      have HSt : Hid (StrsAt (w3'.alloc (.cells #[.string ⟨#[]⟩, .string ⟨#[65]⟩, .string t] 9)) w3'.heap.size [⟨#[]⟩, ⟨#[65]⟩, t]) := by
        refine ⟨by simp, fun k hk => ?_⟩
        rcases (by simp at hk; omega : k = 0 ∨ k = 1 ∨ k = 2) with rfl | rfl | rfl <;> simp
      have hrw : d.r < w3'.heap.size := Nat.lt_of_lt_of_le hr A.2.1.size
      go_wp2_with fail
      obtain ⟨pp, hpp, hR⟩ := A.1
      refine (of_any d pp w3'.heap.size 3 [⟨#[]⟩, ⟨#[65]⟩, t] _ (rd_gr hR ((Gr.refl _).alloc _)) (by omega) HSt.out (by omega) (by simp) (by simp)).mono ?_
      rintro e w4 ⟨⟨k, hk, rfl⟩, R4, M4⟩
      obtain ⟨s4, hs4, hsz4⟩ : ∃ s4 : ByteArray, ([⟨#[]⟩, ⟨#[65]⟩, t] : List ByteArray).getD k ⟨#[]⟩ = s4 ∧ s4.size ≤ 64 := by
        refine ⟨_, rfl, ?_⟩
        rcases (by simp at hk; omega : k = 0 ∨ k = 1 ∨ k = 2) with rfl | rfl | rfl
        · show (⟨#[]⟩ : ByteArray).size ≤ 64
          decide
        · show (⟨#[65]⟩ : ByteArray).size ≤ 64
          decide
        · exact ht
      rw [hs4]
      replace A := sa_but (P' := p + 3) (sa_gr A ((Gr.refl w3').alloc (.cells #[.string ⟨#[]⟩, .string ⟨#[65]⟩, .string t] 9))) R4 M4 (by omega)
      clear hR R4 M4 hpp pp hs4 hk HSt HM
      have HB : Hid _ := sa_name s4 A hsz4
      obtain ⟨s5, v5, L5, ⟨t0, t1, tf0, tf1, tl, -⟩, -⟩ := A.2.2.2.1
      clear A
      go_wp2_with fail
      go_meet
      exact sf_of_sa HB.out (by omega) (by omega)
    have e0 : (x == 0) = false := by simp [hx0]
    by_cases hx1 : x = 1
    · have e1 : (x == 1) = true := by simp [hx1]
      clear hx0 hx1
      go_wp2_with fail
      obtain ⟨pp, hpp, hR⟩ := A.1
      refine (rd_pickB d _ _ _ hR (by omega) (by omega) (by omega)).mono ?_
      rintro e w3 ⟨⟨x3, rfl, y0, y1⟩, R3, M3⟩
      replace A := sa_but (P' := p + 2) A R3 M3 (by omega)
      clear hR R3 M3 hpp pp
      go_wp2_with fail
      go_loopg [] (41 - L.length) (fun gk wr => ∃ N : Nat, N ≤ 48 ∧ gk = 41 - N ∧ Hid (SA d w w1.heap.size (w.heap.size + 1 + 1) (p + 2 + N * 20) N wr))
      case atStart => exact ⟨L.length, by omega, rfl, sa_le A (by omega)⟩
      case round =>
        clear A
        obtain ⟨N, hN, hgk, HA⟩ := hrel
        have A := HA.out
        obtain ⟨s5, v5, L5, hT, hL5, hne, hs5⟩ := A.2.2.2.1
        subst hL5
        obtain ⟨av5, cv5, hav⟩ := owns_form hT.2.2.2.2.2
        subst hav
        by_cases hlt : (L5.length : Int) < 40 + x3
        · have HT : Hid (∀ w', But d.r wr w' → TubV w' w1.heap.size (w.heap.size + 1 + 1) s5 (.slice av5 L5.length cv5) L5) := fun w' m => tubV_but hT m (by omega) (by omega)
          have hMw := A.2.1.size
          have hwl : L5.length < 41 := by omega
          obtain ⟨t0, t1, tf0, tf1, tl, -⟩ := hT
          go_upto_region 11 with fail
          obtain ⟨pp, hpp, hR⟩ := A.1
          go_region_law (first
            | (refine step_append_at rfl (.tmp 53) (.tmp 56) 23 rfl (w.heap.size + 1 + 1) 36 i0 _ 6 48 Try.underlying23 hi hz0 hz1 hz2 rfl (by decide) _ _ _ (by simp [Act.eval]) (HO9.out.alloc _) ⟨w9.heap.size, 0, none⟩ 1 1 (Bx.vals b9) (by simp [Act.eval]) rfl (by exact news6 _ _ (by simp) b9 36) (vals_one _) (by unfold maxLen; omega) (by omega) (by simp; omega) ?_; intro v' wa hown' hgrow hat; obtain ⟨av', cv', hav'⟩ := owns_form hown'; subst hav'; have q1 : wa.cell? ⟨w1.heap.size, 1, none⟩ = _ := World.cell?_of_block (w := w9.alloc (.cells #[.int .i64 b9.x, .int .i64 b9.y, .int .i64 b9.l, .int .i64 b9.h, .int .i64 b9.i, .int .i64 b9.o] 36)) (hgrow.block w1.heap.size (by simp; omega) (fun e => hne e.symm)); have q2 : wa.frozen? ⟨w1.heap.size, 1, none⟩ = _ := World.frozen?_of_block (w := w9.alloc (.cells #[.int .i64 b9.x, .int .i64 b9.y, .int .i64 b9.l, .int .i64 b9.h, .int .i64 b9.i, .int .i64 b9.o] 36)) (hgrow.block w1.heap.size (by simp; omega) (fun e => hne e.symm)))
            | (refine step_call rfl 86 #[.pointer (some ⟨d.r, 0, none⟩)] (by go_simp) (drawBox_but d _ _ (rd_gr hR (Gr.refl _).drew) (by omega)) ?_; rintro e w9 ⟨⟨b9, rfl⟩, ⟨p9, R9, hp9⟩, M9⟩; refine ⟨_, rfl, ?_⟩; have A9 := sa_but (P' := p + 2 + (L5.length + 1) * 20) (sa_gr A (Gr.refl _).drew) R9 M9 (by omega); have HT9 : Hid _ := HT.out w9 ((But.of_gr (Gr.refl wr).drew).trans M9); have HO9 : Hid (w9.ownsRow (w.heap.size + 1 + 1) 36 6 (.slice av5 L5.length cv5) L5.length (flat L5)) := HT9.out.2.2.2.2.2; obtain ⟨j0, j1, jf0, jf1, jl, -⟩ := HT9.out))
          all_goals (have HB : Hid (SA d w w1.heap.size (w.heap.size + 1 + 1) (p + 2 + (L5.length + 1) * 20) (L5.length + 1) _) := sa_next (sa_gr A9 ((Gr.refl w9).alloc (.cells #[.int .i64 b9.x, .int .i64 b9.y, .int .i64 b9.l, .int .i64 b9.h, .int .i64 b9.i, .int .i64 b9.o] 36))) (tubV_but HT9.out (But.of_gr (r := d.r) ((Gr.refl w9).alloc (.cells #[.int .i64 b9.x, .int .i64 b9.y, .int .i64 b9.l, .int .i64 b9.h, .int .i64 b9.i, .int .i64 b9.o] 36))) (by omega) (by omega)) rfl hne hs5 hown' hgrow hat)
          all_goals clear hown' hgrow hat HT9 HO9 A9 A hR
          all_goals go_wp2
          all_goals go_roundg (41 - (L5.length + 1))
          all_goals first | exact ⟨L5.length + 1, by omega, rfl, HB⟩ | omega
        · obtain ⟨t0, t1, tf0, tf1, tl, -⟩ := hT
          clear A
          go_wp2_with fail
          go_meet
          exact sf_of_sa HA.out (by omega) (by omega)
    have e1 : (x == 1) = false := by simp [hx1]
    clear hx0 hx1
    have HA : Hid _ := A
    obtain ⟨s5, v5, L5, hT, hL5, hne, hs5⟩ := A.2.2.2.1
    obtain ⟨av5, cv5, hav⟩ := owns_form hT.2.2.2.2.2
    subst hav
    by_cases hlt : 0 < L5.length
    · have hli : (0 : Int) < (L5.length : Int) := by omega
      have HT : Hid (∀ w', But d.r w2 w' → TubV w' w1.heap.size (w.heap.size + 1 + 1) s5 (.slice av5 L5.length cv5) L5) := fun w' m => tubV_but hT m (by omega) (by omega)
      obtain ⟨t0, t1, tf0, tf1, tl, -⟩ := hT
      go_wp2_with fail
      obtain ⟨pp, hpp, hR⟩ := A.1
      refine (rd_pickB d _ _ _ hR (by omega) (by omega) (by omega)).mono ?_
      rintro e w3 ⟨⟨x4, rfl, y0, y1⟩, R3, M3⟩
      obtain ⟨k, rfl⟩ := Int.eq_ofNat_of_zero_le y0
      have hkl : k < L5.length := by omega
      clear A
      have A := sa_but (P' := p + 2) HA.out R3 M3 (by omega)
      have hT := HT.out w3 M3
      have HT3 : Hid (∀ w', But d.r w3 w' → TubV w' w1.heap.size (w.heap.size + 1 + 1) s5 (.slice av5 L5.length cv5) L5) := fun w' m => tubV_but hT m (by omega) (by omega)
      obtain ⟨g, c5, ev⟩ : ∃ g c5, (.slice av5 L5.length cv5 : Value) = .slice (some ⟨g, 0, none⟩) L5.length c5 := by
        rcases hT.2.2.2.2.2.2 with ⟨e, -⟩ | ⟨g, cap, cur, e, -⟩
        · exact absurd (by injection e) (by omega : ¬ L5.length = 0)
        · exact ⟨g, cap, e⟩
      obtain ⟨rfl, rfl⟩ : av5 = some ⟨g, 0, none⟩ ∧ cv5 = c5 := by
        injection ev with a1 a2 a3
        exact ⟨a1, a3⟩
      have hgq : w1.heap.size ≠ g := fun e => hne (by simp [Value.ownBlock, e])
      have hbg : (w.heap.size + 1 + 1) ≤ g := owns_block hT.2.2.2.2.2 g rfl
      clear hR R3 M3 hpp pp HT t0 t1 tf0 tf1 tl HA
      obtain ⟨a1, c1, hv, hr1, hb1'⟩ := owns_boxes rfl hT.2.2.2.2.2
      cases hv
      obtain ⟨-, -, -, hgl, hro⟩ := hr1 g 0 none rfl
      obtain ⟨b, hb⟩ : ∃ b, L5.getD k Bx.nil = b := ⟨_, rfl⟩
      have HSX : Hid (Six w3 g (k * 6) b) := by
        obtain ⟨g', o', e, -, hx⟩ := hb1' k hkl
        cases e
        rw [hb, Nat.zero_add] at hx
        exact hx
      have HRO : Hid (Room w3 g (k * 6)) := hro k hkl
      clear hb hro hr1 hb1'
      obtain ⟨t0, t1, tf0, tf1, tl, -⟩ := hT
      have hk0 : (0 : Int) ≤ (k : Int) := by omega
      have hk1 : (k : Int) < (L5.length : Int) := by omega
      go_upto_region 5 with fail
      have hH : w3.drew.cell? ⟨w1.heap.size, 1, none⟩ = some (.slice (some ⟨g, 0, none⟩) L5.length cv5) := t1
      refine wp_region_held (S := fun w' => w'.cell? ⟨w1.heap.size, 1, none⟩ = some (.slice (some ⟨g, 0, none⟩) L5.length cv5)) (by kernel_rfl) ?_
      change wpAnyH _ _ _ _ _ _ _ _ (World.drew _)
      refine takeD (i := 0) (d := 21) (v := .pointer (some ⟨w1.heap.size, 1, none⟩)) rfl rfl (by kernel_rfl) (by kernel_rfl) (by kernel_rfl) (fun _ _ _ h => h) hH (Or.inl ⟨by rfl, by intro w' hSw; (try dsimp only at hSw); go_simp⟩) ?_
      simp only [Act.put, List.setIfInBounds_toArray, List.set_cons_zero, List.set_cons_succ]
      refine takeD (i := 1) (d := 22) (v := (.slice (some ⟨g, 0, none⟩) L5.length cv5)) rfl rfl (by kernel_rfl) (by kernel_rfl) (by kernel_rfl) (fun _ _ _ h => h) hH (Or.inl ⟨by rfl, by intro w' hSw; (try dsimp only at hSw); go_simp⟩) ?_
      simp only [Act.put, List.setIfInBounds_toArray, List.set_cons_zero, List.set_cons_succ]
      refine takeD (i := 2) (d := 23) (v := .int .i64 k) rfl rfl (by kernel_rfl) (by kernel_rfl) (by kernel_rfl) (fun _ _ _ h => h) hH (Or.inl ⟨by rfl, by intro w' hSw; (try dsimp only at hSw); go_simp⟩) ?_
      simp only [Act.put, List.setIfInBounds_toArray, List.set_cons_zero, List.set_cons_succ]
      refine takeD (i := 3) (d := 24) (v := .pointer (some ⟨d.r, 0, none⟩)) rfl rfl (by kernel_rfl) (by kernel_rfl) (by kernel_rfl) (fun _ _ _ h => h) hH (Or.inl ⟨by rfl, by intro w' hSw; (try dsimp only at hSw); go_simp⟩) ?_
      simp only [Act.put, List.setIfInBounds_toArray, List.set_cons_zero, List.set_cons_succ]
      refine takeD (i := 4) (d := 25) (v := .pointer (some ⟨w1.heap.size, 1, none⟩)) rfl rfl (by kernel_rfl) (by kernel_rfl) (by kernel_rfl) (fun _ _ _ h => h) hH (Or.inl ⟨by rfl, by intro w' hSw; (try dsimp only at hSw); go_simp⟩) ?_
      simp only [Act.put, List.setIfInBounds_toArray, List.set_cons_zero, List.set_cons_succ]
      refine takeD (i := 5) (d := 26) (v := (.slice (some ⟨g, 0, none⟩) L5.length cv5)) rfl rfl (by kernel_rfl) (by kernel_rfl) (by kernel_rfl) (fun _ _ _ h => h) hH (Or.inl ⟨by rfl, by intro w' hSw; (try dsimp only at hSw); go_simp⟩) ?_
      simp only [Act.put, List.setIfInBounds_toArray, List.set_cons_zero, List.set_cons_succ]
      refine takeD (i := 6) (d := 27) (v := .int .i64 k) rfl rfl (by kernel_rfl) (by kernel_rfl) (by kernel_rfl) (fun _ _ _ h => h) hH (Or.inl ⟨by rfl, by intro w' hSw; (try dsimp only at hSw); go_simp⟩) ?_
      simp only [Act.put, List.setIfInBounds_toArray, List.set_cons_zero, List.set_cons_succ]
      refine takeD (i := 7) (d := 28) (v := .pointer (some ⟨g, k * 6, none⟩)) rfl rfl (by kernel_rfl) (by kernel_rfl) (by kernel_rfl) (fun _ _ _ h => h) hH (Or.inl ⟨by rfl, by intro w' hSw; (try dsimp only at hSw); go_simp⟩) ?_
      simp only [Act.put, List.setIfInBounds_toArray, List.set_cons_zero, List.set_cons_succ]
      obtain ⟨z0, z1, z2, z3, z4, z5⟩ := HSX.out
      refine wpAnyH_ready (rs := [8]) (by kernel_rfl) (by simp) ?_
      refine AllReadyH.cons (o := _) rfl (fun K hK => ?_) AllReadyH.nil
      go_simp
      refine hK.out _ _ hH (fun hH => ?_)
      clear hK K
      (try simp only [Act.put, List.setIfInBounds_toArray, List.set_cons_zero, List.set_cons_succ])
      obtain ⟨pp, hpp, hR⟩ := A.1
      refine wpAnyH_ready (rs := [9]) (by kernel_rfl) (by simp) ?_
      refine AllReadyH.cons (o := _) rfl (fun K hK => ?_) AllReadyH.nil
      go_simp
      refine (spoilBox_any d _ b _ (rd_gr hR (Gr.refl _).drew) (by omega)).mono ?_
      rintro e w5 ⟨⟨b', rfl⟩, ⟨p5, R5, hp5⟩, M5⟩
      dsimp only
      have hrw : d.r < w3.heap.size := Nat.lt_of_lt_of_le hr A.2.1.size
      refine hK.out _ _ (by (try dsimp only); exact (M5.cell (q := w1.heap.size) tl (by omega) 1).trans t1) (fun hH => ?_)
      clear hK K
      (try simp only [Act.put, List.setIfInBounds_toArray, List.set_cons_zero, List.set_cons_succ])
      refine takeD (i := 10) (d := 31) (v := .pointer (some ⟨g, k * 6, none⟩)) rfl rfl (by kernel_rfl) (by kernel_rfl) (by kernel_rfl) (fun _ _ _ h => h) hH (Or.inl ⟨by rfl, by intro w' hSw; (try dsimp only at hSw); go_simp⟩) ?_
      simp only [Act.put, List.setIfInBounds_toArray, List.set_cons_zero, List.set_cons_succ]
      have HRO5 : Room w5 g (k * 6) := by
        have c := fun o => M5.cell (q := g) hgl (by omega) o
        have f := fun o => M5.frozen (q := g) hgl (by omega) o
        have hx := HRO.out
        unfold Room at *
        simp only [c, f]
        exact hx
      have A5 : SA d w w1.heap.size (w.heap.size + 1 + 1) (p + 10) L5.length w5 := by
        rw [hL5]
        exact sa_but (sa_gr A (Gr.refl w3).drew) R5 M5 (by omega)
      have HB : Hid (SF d w w1.heap.size (p + 1500) (put6 w5 g (k * 6) b')) := sf_put b' A5 (HT3.out w5 ((But.of_gr (Gr.refl w3).drew).trans M5)) hgq hs5 hkl (by omega) (by omega)
      obtain ⟨⟨⟨u0, k0⟩, f0⟩, ⟨⟨u1, k1⟩, f1⟩, ⟨⟨u2, k2⟩, f2⟩, ⟨⟨u3, k3⟩, f3⟩, ⟨⟨u4, k4⟩, f4⟩, ⟨⟨u5, k5⟩, f5⟩⟩ := HRO5
      refine wpAnyH_ready (rs := [11]) (by kernel_rfl) (by simp) ?_
      refine AllReadyH.cons (o := _) rfl (fun K hK => ?_) AllReadyH.nil
      go_simp
      refine hK.out _ _ (by (try dsimp only); exact (put6_out w5 g (k * 6) b' _ _ (Or.inl hgq)).trans hH) (fun hH => ?_)
      clear hK K
      (try simp only [Act.put, List.setIfInBounds_toArray, List.set_cons_zero, List.set_cons_succ])
      refine wpAnyH_done (by kernel_rfl) ?_ _
      clear A A5 HT3 HSX HRO R5 M5 hR
      go_wp2_with fail
      go_meet
      exact HB.out
    · obtain ⟨t0, t1, tf0, tf1, tl, -⟩ := hT
      have hl0 : L5.length = 0 := by omega
      clear A
      go_wp2_with fail
      go_meet
      exact sf_of_sa HA.out (by omega) (by omega)
  clear A
  obtain ⟨⟨p9, hp9, R9⟩, MB, PA, ⟨s9, v9, L9, hq9, t0, t1, hs9, hL9, HO9, HV9⟩, hqq, -⟩ := hcut
  obtain ⟨av9, cv9, rfl⟩ : ∃ av cv, v9 = .slice av L9.length cv := by obtain ⟨a, c, e, -⟩ := HO9 w (by omega); exact ⟨a, c, e⟩
  rename World => wf
  obtain ⟨hP1, ⟨u0, hu0⟩, ⟨u1, hu1⟩, fr0, fr1⟩ := PA
  have HVh : Hid ((.slice av9 L9.length cv9 : Value) = .slice none 0 0 ∨ ∃ g c, (.slice av9 L9.length cv9 : Value) = .slice (some ⟨g, 0, none⟩) L9.length c) := HV9
  have HF : Hid (∀ u0 u1, Rd d ((wf.setCell ⟨w.heap.size + 1, 0, none⟩ u0).setCell ⟨w.heap.size + 1, 1, none⟩ u1) p9 ∧ But d.r w ((wf.setCell ⟨w.heap.size + 1, 0, none⟩ u0).setCell ⟨w.heap.size + 1, 1, none⟩ u1) ∧ OwnL w ((wf.setCell ⟨w.heap.size + 1, 0, none⟩ u0).setCell ⟨w.heap.size + 1, 1, none⟩ u1) (.slice av9 L9.length cv9) L9) := fun u0 u1 => ⟨rd_set (rd_set R9 _ _ (by dsimp only; omega)) _ _ (by dsimp only; omega), but_set _ (but_set _ MB (by omega)) (by omega), ownL_old (ownL_set (ownL_set (HO9 ((w.alloc (.cells #[.string s, .slice av L.length cv] 25)).alloc (.cells #[.string ⟨#[]⟩, .slice none 0 0] 25)) (by simp)) _ _ (by simp)) _ _ (by simp)) (by simp; omega)⟩
  clear HO9 HV9 MB R9
  go_wp2
  refine bodyPost_ret (v := .agg #[.string s9, .slice av9 L9.length cv9]) (by simp [results, Try.results79, go_sem, *]) rfl ⟨⟨s9, _, L9, rfl, hs9, hL9, (HF.out _ _).2.2, HVh.out⟩, ⟨p9, (HF.out _ _).1, by omega⟩, (HF.out _ _).2.1⟩
end Go.Proofs.Ytpdcgjkfilohcaa
