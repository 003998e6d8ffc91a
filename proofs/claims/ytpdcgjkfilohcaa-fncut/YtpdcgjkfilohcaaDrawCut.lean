import Derived.Test.YtpdcgjkfilohcaaDrawN
namespace Go.Proofs.Ytpdcgjkfilohcaa
open Go.RowKit
attribute [local go_sem ↓] Go.wp_at_zero Go.wp_at_succ

/-- Where the drawing of a tube and a tick stands: the tube lies at q. -/
def CS (d : Rdr) (w : World) (q P : Nat) (s : ByteArray) (v : Value) (L : List Bx) (wx : World) : Prop :=
  (∃ p, p ≤ P ∧ Rd d wx p) ∧ Gr w wx ∧ PairAt wx w.heap.size ∧ (q < wx.heap.size ∧ wx.cell? ⟨q, 0, none⟩ = some (.string s) ∧ wx.cell? ⟨q, 1, none⟩ = some v) ∧ (∃ B : World, OwnL B wx v L ∧ d.r < B.heap.size) ∧ w.heap.size < d.r ∧ d.r < q
theorem cs_but {d : Rdr} {w : World} {q P p P' : Nat} {s : ByteArray} {v : Value} {L : List Bx} {wx w' : World} (h : CS d w q P s v L wx) (hR : Rd d w' p) (hM : But d.r wx w') (hp : p ≤ P') : CS d w q P' s v L w' := by
  obtain ⟨-, hG, hQ, ⟨hq, h0, h1⟩, ⟨B, hO, hB⟩, hw, hd⟩ := h
  exact ⟨⟨p, hp, hR⟩, hM.gr hG (by omega), pair_but hQ hM (by omega), ⟨Nat.lt_of_lt_of_le hq hM.size, (hM.cell hq (by omega) 0).trans h0, (hM.cell hq (by omega) 1).trans h1⟩, ⟨B, ownL_but hO hM hB, hB⟩, hw, hd⟩
theorem cs_gr {d : Rdr} {w : World} {q P : Nat} {s : ByteArray} {v : Value} {L : List Bx} {wx w' : World} (h : CS d w q P s v L wx) (g : Gr wx w') : CS d w q P s v L w' := by
  obtain ⟨p, hp, hR⟩ := h.1
  exact cs_but h (rd_gr hR g) (But.of_gr g) hp
theorem cs_fin {d : Rdr} {w : World} {q P : Nat} {s : ByteArray} {v : Value} {L : List Bx} {wx : World} (h : CS d w q P s v L wx) (u0 u1 : Value) : (∃ a1 c1, v = .slice a1 L.length c1 ∧ Boxes ((wx.setCell ⟨w.heap.size, 0, none⟩ u0).setCell ⟨w.heap.size, 1, none⟩ u1) a1 L) ∧ Gr w ((wx.setCell ⟨w.heap.size, 0, none⟩ u0).setCell ⟨w.heap.size, 1, none⟩ u1) := by
  obtain ⟨-, hG, hQ, -, ⟨B, hO, hB⟩, hw, hd⟩ := h
  obtain ⟨a1, c1, e1, -, b1⟩ := ownL_set (ownL_set hO ⟨w.heap.size, 0, none⟩ u0 (by dsimp only; omega)) ⟨w.heap.size, 1, none⟩ u1 (by dsimp only; omega)
  exact ⟨⟨a1, c1, e1, b1⟩, (hG.setCell (by dsimp only; omega) _).setCell (by dsimp only; omega) _⟩

set_option maxRecDepth 100000 in
set_option maxHeartbeats 1000000 in
theorem drawCut_any (a : Option Addr) (cap : Nat) (bs : List Int) (w : World) (hb : BytesAt w a bs) (hl : bs.length ≤ 1048576) (hcap : bs.length ≤ cap) :
    Calls Try.prog 18 #[.slice a bs.length cap] w fun e w' => (∃ (s : ByteArray) (a1 : Option Addr) (c1 : Nat) (cs : List Bx) (f : Int), e = .returned (.tuple #[.agg #[.string s, .slice a1 cs.length c1], .int .i64 f]) ∧ s.size ≤ 64 ∧ cs.length ≤ 48 ∧ Boxes w' a1 cs ∧ -1 ≤ f ∧ f ≤ 9223372036854775807) ∧ Gr w w' := by
  have GG : Gr w (w.alloc (.cells #[.string ⟨#[]⟩, .slice none 0 0] 25)) := (Gr.refl _).alloc _
  have P0 : PairAt (w.alloc (.cells #[.string ⟨#[]⟩, .slice none 0 0] 25)) w.heap.size := pair_new (Gr.refl _)
  have eR : (w.alloc (.cells #[.string ⟨#[]⟩, .slice none 0 0] 25)).heap.size = w.heap.size + 1 := by simp
  go_enter Try.func18, Try.ntmps18
  go_wp2_with fail
  refine (open_any a cap bs _ (bytes_gr hb GG) hl hcap).mono ?_
  rintro e w1 ⟨⟨d, rfl, hd, R1⟩, g1⟩
  rw [eR] at hd
  have hd1 : w.heap.size < d.r := by omega
  clear hd
  have hdl : d.r < w1.heap.size := R1.2.2.2.2.2.1
  have M1 : But d.r (w.alloc (.cells #[.string ⟨#[]⟩, .slice none 0 0] 25)) w1 := But.of_gr g1
  replace P0 := pair_but P0 M1 (by omega)
  go_wp2_with fail
  refine (l2Any_of spoil_any d 0 w1 R1 (by omega)).mono ?_
  rintro e w2 ⟨⟨s, v, L, rfl, hsz, hL, HO, -⟩, ⟨p2, R2, hp2⟩, M2⟩
  obtain ⟨av, cv, hv⟩ : ∃ av cv, v = .slice av L.length cv := by obtain ⟨a, c, e, -⟩ := HO; exact ⟨a, c, e⟩
  subst hv
  have hs2 := M2.size
  have A : CS d w w2.heap.size p2 s (.slice av L.length cv) L (w2.alloc (.cells #[.string s, .slice av L.length cv] 25)) := by
    have g2 : Gr w2 (w2.alloc (.cells #[.string s, .slice av L.length cv] 25)) := (Gr.refl _).alloc _
    exact ⟨⟨p2, Nat.le_refl _, rd_gr R2 g2⟩, (M2.gr (GG.trans g1) (by omega)).trans g2, pair_but (pair_but P0 M2 (by omega)) (But.of_gr (r := d.r) g2) (by omega), ⟨by simp, by simp, by simp⟩, ⟨w1, ownL_but HO (But.of_gr (r := d.r) g2) hdl, hdl⟩, hd1, by omega⟩
  clear R1 R2 M1 M2 P0 HO g1
  go_upto_region 3 with fail
  have hH : (w2.alloc (.cells #[.string s, .slice av L.length cv] 25)).drew.cell? ⟨w2.heap.size, 0, none⟩ = some (.string s) ∧ (w2.alloc (.cells #[.string s, .slice av L.length cv] 25)).drew.cell? ⟨w2.heap.size, 1, none⟩ = some (.slice av L.length cv) := A.2.2.2.1.2
  refine wp_region_held (S := fun w' => w'.cell? ⟨w2.heap.size, 0, none⟩ = some (.string s) ∧ w'.cell? ⟨w2.heap.size, 1, none⟩ = some (.slice av L.length cv)) (by kernel_rfl) ?_
  change wpAnyH _ _ _ _ _ _ _ _ (World.drew _)
  refine takeD (i := 0) (d := 10) (v := .agg #[.string s, (.slice av L.length cv)]) rfl rfl (by kernel_rfl) (by kernel_rfl) (by kernel_rfl) (fun _ _ _ h => h) hH (Or.inl ⟨by rfl, by intro w' hSw; (try dsimp only at hSw); obtain ⟨sw0, sw1⟩ := hSw; go_simp⟩) ?_
  (try simp only [Act.put, List.setIfInBounds_toArray, List.set_cons_zero, List.set_cons_succ])
  refine takeD (i := 1) (d := 11) (v := .pointer (some ⟨d.r, 0, none⟩)) rfl rfl (by kernel_rfl) (by kernel_rfl) (by kernel_rfl) (fun _ _ _ h => h) hH (Or.inl ⟨by rfl, by intro w' hSw; (try dsimp only at hSw); obtain ⟨sw0, sw1⟩ := hSw; go_simp⟩) ?_
  (try simp only [Act.put, List.setIfInBounds_toArray, List.set_cons_zero, List.set_cons_succ])
  refine takeD (i := 3) (d := 13) (v := .pointer (some ⟨d.r, 0, none⟩)) rfl rfl (by kernel_rfl) (by kernel_rfl) (by kernel_rfl) (fun _ _ _ h => h) hH (Or.inl ⟨by rfl, by intro w' hSw; (try dsimp only at hSw); obtain ⟨sw0, sw1⟩ := hSw; go_simp⟩) ?_
  (try simp only [Act.put, List.setIfInBounds_toArray, List.set_cons_zero, List.set_cons_succ])
  refine takeD (i := 6) (d := 16) (v := .pointer (some ⟨d.r, 0, none⟩)) rfl rfl (by kernel_rfl) (by kernel_rfl) (by kernel_rfl) (fun _ _ _ h => h) hH (Or.inl ⟨by rfl, by intro w' hSw; (try dsimp only at hSw); obtain ⟨sw0, sw1⟩ := hSw; go_simp⟩) ?_
  (try simp only [Act.put, List.setIfInBounds_toArray, List.set_cons_zero, List.set_cons_succ])
  refine wpAnyH_ready (rs := [2]) (by kernel_rfl) (by simp) ?_
  refine AllReadyH.cons (o := _) rfl (fun K hK => ?_) AllReadyH.nil
  go_simp
  obtain ⟨pp, hpp, hR⟩ := A.1
  refine (rd_pickB d _ _ _ (rd_gr hR (Gr.refl _).drew) (by omega) (by omega) (by omega)).mono ?_
  rintro e w3 ⟨⟨x3, rfl, x30, x31⟩, R9, M9⟩
  dsimp only
  have Aw3 := cs_but (P' := p2 + 1) (cs_gr A (Gr.refl _).drew) R9 M9 (by omega)
  refine hK.out _ _ Aw3.2.2.2.1.2 (fun hH => ?_)
  clear hK K
  (try simp only [Act.put, List.setIfInBounds_toArray, List.set_cons_zero, List.set_cons_succ])
  clear A hR R9 M9 hpp pp
  refine wpAnyH_ready (rs := [4]) (by kernel_rfl) (by simp) ?_
  refine AllReadyH.cons (o := _) rfl (fun K hK => ?_) AllReadyH.nil
  go_simp
  obtain ⟨pp, hpp, hR⟩ := Aw3.1
  refine (rd_pickB d _ _ _ (hR) (by omega) (by omega) (by omega)).mono ?_
  rintro e w4 ⟨⟨x4, rfl, x40, x41⟩, R9, M9⟩
  dsimp only
  have Aw4 := cs_but (P' := p2 + 2) (Aw3) R9 M9 (by omega)
  refine hK.out _ _ Aw4.2.2.2.1.2 (fun hH => ?_)
  clear hK K
  (try simp only [Act.put, List.setIfInBounds_toArray, List.set_cons_zero, List.set_cons_succ])
  clear Aw3 hR R9 M9 hpp pp
  refine wpAnyH_ready (rs := [5, 7]) (by kernel_rfl) (by simp) ?_
  refine AllReadyH.cons (o := _) rfl (fun K hK => ?_) (AllReadyH.cons (o := _) rfl (fun K hK => ?_) AllReadyH.nil)
  · go_simp
    have A5 := cs_gr Aw4 ((Gr.refl w4).alloc (.cells #[.int .i64 x3, .int .i64 x4, .int .i64 (-1), .int .i64 0, .int .i64 10000, .int .i64 9223372036854775807] 3))
    refine hK.out _ _ (by (try dsimp only); exact A5.2.2.2.1.2) (fun hH => ?_)
    clear hK K
    (try simp only [Act.put, List.setIfInBounds_toArray, List.set_cons_zero, List.set_cons_succ])
    refine wpAnyH_ready (rs := [7]) (by kernel_rfl) (by simp) ?_
    refine AllReadyH.cons (o := _) rfl (fun K hK => ?_) AllReadyH.nil
    go_simp
    obtain ⟨pp, hpp, hR⟩ := A5.1
    refine (rd_pickB d _ _ _ (hR) (by omega) (by omega) (by omega)).mono ?_
    rintro e w5 ⟨⟨x5, rfl, x50, x51⟩, R9, M9⟩
    dsimp only
    have Aw5 := cs_but (P' := p2 + 3) (A5) R9 M9 (by omega)
    refine hK.out _ _ Aw5.2.2.2.1.2 (fun hH => ?_)
    clear hK K
    (try simp only [Act.put, List.setIfInBounds_toArray, List.set_cons_zero, List.set_cons_succ])
    obtain ⟨gg, hgg⟩ : ∃ gg, gg = w4.heap.size := ⟨_, rfl⟩
    rw [← hgg]
    have hdw := Aw4.1.choose_spec.2.2.2.2.2.2.1
    have HC : ∀ j, j < 6 → w5.cell? ⟨gg, j, none⟩ = (w4.alloc (.cells #[.int .i64 x3, .int .i64 x4, .int .i64 (-1), .int .i64 0, .int .i64 10000, .int .i64 9223372036854775807] 3)).cell? ⟨gg, j, none⟩ := fun j _ => M9.cell (q := gg) (by rw [hgg]; simp) (by omega) j
    replace HC : ∀ j v, (w4.alloc (.cells #[.int .i64 x3, .int .i64 x4, .int .i64 (-1), .int .i64 0, .int .i64 10000, .int .i64 9223372036854775807] 3)).cell? ⟨gg, j, none⟩ = some v → w5.cell? ⟨gg, j, none⟩ = some v := fun j v h => (M9.cell (q := gg) (by rw [hgg]; simp) (by omega) j).trans h
    obtain ⟨k, rfl⟩ := Int.eq_ofNat_of_zero_le x50
    obtain ⟨y, hy, hy0, hy1⟩ : ∃ y, w5.cell? ⟨gg, k, none⟩ = some (.int .i64 y) ∧ -1 ≤ y ∧ y ≤ 9223372036854775807 := by
      rcases (by omega : k = 0 ∨ k = 1 ∨ k = 2 ∨ k = 3 ∨ k = 4 ∨ k = 5) with rfl | rfl | rfl | rfl | rfl | rfl
      · exact ⟨x3, HC 0 _ (by rw [hgg]; simp), by omega, by omega⟩
      · exact ⟨x4, HC 1 _ (by rw [hgg]; simp), by omega, by omega⟩
      · exact ⟨-1, HC 2 _ (by rw [hgg]; simp), by omega, by omega⟩
      · exact ⟨0, HC 3 _ (by rw [hgg]; simp), by omega, by omega⟩
      · exact ⟨10000, HC 4 _ (by rw [hgg]; simp), by omega, by omega⟩
      · exact ⟨9223372036854775807, HC 5 _ (by rw [hgg]; simp), by omega, by omega⟩
    have hgq : w.heap.size < gg := by rw [hgg]; omega
    clear HC hR R9 M9 hpp pp A5 Aw4 hgg
    refine takeD (i := 8) (d := 18) (v := .pointer (some ⟨gg, k, none⟩)) rfl rfl (by kernel_rfl) (by kernel_rfl) (by kernel_rfl) (fun _ _ _ h => h) hH (Or.inl ⟨by rfl, by intro w' hSw; go_simp⟩) ?_
    (try simp only [Act.put, List.setIfInBounds_toArray, List.set_cons_zero, List.set_cons_succ])
    obtain ⟨hP0, ⟨r0, hr0⟩, ⟨r1, hr1⟩, fr0, fr1⟩ := Aw5.2.2.1
    have HF : Hid _ := cs_fin Aw5
    have hdq := Aw5.2.2.2.2.2
    have hqw := Aw5.2.2.2.1.1
    have hgw : gg ≠ w.heap.size := by omega
    refine wpAnyH_ready (rs := [9, 10]) (by kernel_rfl) (by simp) ?_
    refine AllReadyH.cons (o := _) rfl (fun K hK => ?_) (AllReadyH.cons (o := _) rfl (fun K hK => ?_) AllReadyH.nil)
    · go_simp
      refine hK.out _ _ hH (fun hH => ?_)
      clear hK K
      (try simp only [Act.put, List.setIfInBounds_toArray, List.set_cons_zero, List.set_cons_succ])
      refine wpAnyH_ready (rs := [10]) (by kernel_rfl) (by simp) ?_
      refine AllReadyH.cons (o := _) rfl (fun K hK => ?_) AllReadyH.nil
      go_simp
      refine hK.out _ _ (by (try dsimp only); exact ⟨(cell_off _ _ _ _ _ _ (by omega)).trans ((cell_off _ _ _ _ _ _ (by omega)).trans hH.1), (cell_off _ _ _ _ _ _ (by omega)).trans ((cell_off _ _ _ _ _ _ (by omega)).trans hH.2)⟩) (fun hH => ?_)
      clear hK K
      (try simp only [Act.put, List.setIfInBounds_toArray, List.set_cons_zero, List.set_cons_succ])
      refine takeD (i := 11) (d := 3) (v := .int .i64 y) rfl rfl (by kernel_rfl) (by kernel_rfl) (by kernel_rfl) (fun _ _ _ h => h) hH (Or.inl ⟨by rfl, by intro w' hSw; go_simp⟩) ?_
      (try simp only [Act.put, List.setIfInBounds_toArray, List.set_cons_zero, List.set_cons_succ])
      refine wpAnyH_done (by kernel_rfl) ?_ _
      go_wp2
      obtain ⟨⟨a1, c1, e1, b1⟩, hG⟩ := HF.out (.string s) (.slice av L.length cv)
      exact bodyPost_ret (v := .tuple #[.agg #[.string s, (.slice av L.length cv)], .int .i64 y]) (by simp [results, Try.results18, go_sem, *]) rfl ⟨⟨s, a1, c1, L, y, by rw [e1], by omega, by omega, b1, hy0, hy1⟩, hG⟩
    · go_simp
      refine hK.out _ _ (by (try dsimp only); exact ⟨(cell_off _ _ _ _ _ _ (by omega)).trans ((cell_off _ _ _ _ _ _ (by omega)).trans hH.1), (cell_off _ _ _ _ _ _ (by omega)).trans ((cell_off _ _ _ _ _ _ (by omega)).trans hH.2)⟩) (fun hH => ?_)
      clear hK K
      (try simp only [Act.put, List.setIfInBounds_toArray, List.set_cons_zero, List.set_cons_succ])
      refine wpAnyH_ready (rs := [9]) (by kernel_rfl) (by simp) ?_
      refine AllReadyH.cons (o := _) rfl (fun K hK => ?_) AllReadyH.nil
      go_simp
      refine hK.out _ _ hH (fun hH => ?_)
      clear hK K
      (try simp only [Act.put, List.setIfInBounds_toArray, List.set_cons_zero, List.set_cons_succ])
      refine takeD (i := 11) (d := 3) (v := .int .i64 y) rfl rfl (by kernel_rfl) (by kernel_rfl) (by kernel_rfl) (fun _ _ _ h => h) hH (Or.inl ⟨by rfl, by intro w' hSw; go_simp⟩) ?_
      (try simp only [Act.put, List.setIfInBounds_toArray, List.set_cons_zero, List.set_cons_succ])
      refine wpAnyH_done (by kernel_rfl) ?_ _
      go_wp2
      obtain ⟨⟨a1, c1, e1, b1⟩, hG⟩ := HF.out (.string s) (.slice av L.length cv)
      exact bodyPost_ret (v := .tuple #[.agg #[.string s, (.slice av L.length cv)], .int .i64 y]) (by simp [results, Try.results18, go_sem, *]) rfl ⟨⟨s, a1, c1, L, y, by rw [e1], by omega, by omega, b1, hy0, hy1⟩, hG⟩
  · go_simp
    obtain ⟨pp, hpp, hR⟩ := Aw4.1
    refine (rd_pickB d _ _ _ (hR) (by omega) (by omega) (by omega)).mono ?_
    rintro e w5 ⟨⟨x5, rfl, x50, x51⟩, R9, M9⟩
    dsimp only
    have Aw5 := cs_but (P' := p2 + 3) (Aw4) R9 M9 (by omega)
    refine hK.out _ _ Aw5.2.2.2.1.2 (fun hH => ?_)
    clear hK K
    (try simp only [Act.put, List.setIfInBounds_toArray, List.set_cons_zero, List.set_cons_succ])
    have hdw5 := R9.2.2.2.2.2.1
    clear Aw4 hR R9 M9 hpp pp
    refine wpAnyH_ready (rs := [5, 10]) (by kernel_rfl) (by simp) ?_
    refine AllReadyH.cons (o := _) rfl (fun K hK => ?_) (AllReadyH.cons (o := _) rfl (fun K hK => ?_) AllReadyH.nil)
    · go_simp
      have A5 := cs_gr Aw5 ((Gr.refl w5).alloc (.cells #[.int .i64 x3, .int .i64 x4, .int .i64 (-1), .int .i64 0, .int .i64 10000, .int .i64 9223372036854775807] 3))
      refine hK.out _ _ (by (try dsimp only); exact A5.2.2.2.1.2) (fun hH => ?_)
      clear hK K
      (try simp only [Act.put, List.setIfInBounds_toArray, List.set_cons_zero, List.set_cons_succ])
      obtain ⟨k, rfl⟩ := Int.eq_ofNat_of_zero_le x50
      obtain ⟨y, hy, hy0, hy1⟩ : ∃ y, (w5.alloc (.cells #[.int .i64 x3, .int .i64 x4, .int .i64 (-1), .int .i64 0, .int .i64 10000, .int .i64 9223372036854775807] 3)).cell? ⟨w5.heap.size, k, none⟩ = some (.int .i64 y) ∧ -1 ≤ y ∧ y ≤ 9223372036854775807 := by
        rcases (by omega : k = 0 ∨ k = 1 ∨ k = 2 ∨ k = 3 ∨ k = 4 ∨ k = 5) with rfl | rfl | rfl | rfl | rfl | rfl
        · exact ⟨x3, by simp, by omega, by omega⟩
        · exact ⟨x4, by simp, by omega, by omega⟩
        · exact ⟨-1, by simp, by omega, by omega⟩
        · exact ⟨0, by simp, by omega, by omega⟩
        · exact ⟨10000, by simp, by omega, by omega⟩
        · exact ⟨9223372036854775807, by simp, by omega, by omega⟩
      refine takeD (i := 8) (d := 18) (v := .pointer (some ⟨w5.heap.size, k, none⟩)) rfl rfl (by kernel_rfl) (by kernel_rfl) (by kernel_rfl) (fun _ _ _ h => h) hH (Or.inl ⟨by rfl, by intro w' hSw; go_simp⟩) ?_
      (try simp only [Act.put, List.setIfInBounds_toArray, List.set_cons_zero, List.set_cons_succ])
      obtain ⟨hP0, ⟨r0, hr0⟩, ⟨r1, hr1⟩, fr0, fr1⟩ := A5.2.2.1
      have HF : Hid _ := cs_fin A5
      have hdq := A5.2.2.2.2.2
      have hqw := A5.2.2.2.1.1
      have hgw : w5.heap.size ≠ w.heap.size := by omega
      refine wpAnyH_ready (rs := [9, 10]) (by kernel_rfl) (by simp) ?_
      refine AllReadyH.cons (o := _) rfl (fun K hK => ?_) (AllReadyH.cons (o := _) rfl (fun K hK => ?_) AllReadyH.nil)
      · go_simp
        refine hK.out _ _ hH (fun hH => ?_)
        clear hK K
        (try simp only [Act.put, List.setIfInBounds_toArray, List.set_cons_zero, List.set_cons_succ])
        refine wpAnyH_ready (rs := [10]) (by kernel_rfl) (by simp) ?_
        refine AllReadyH.cons (o := _) rfl (fun K hK => ?_) AllReadyH.nil
        go_simp
        refine hK.out _ _ (by (try dsimp only); exact ⟨(cell_off _ _ _ _ _ _ (by omega)).trans ((cell_off _ _ _ _ _ _ (by omega)).trans hH.1), (cell_off _ _ _ _ _ _ (by omega)).trans ((cell_off _ _ _ _ _ _ (by omega)).trans hH.2)⟩) (fun hH => ?_)
        clear hK K
        (try simp only [Act.put, List.setIfInBounds_toArray, List.set_cons_zero, List.set_cons_succ])
        refine takeD (i := 11) (d := 3) (v := .int .i64 y) rfl rfl (by kernel_rfl) (by kernel_rfl) (by kernel_rfl) (fun _ _ _ h => h) hH (Or.inl ⟨by rfl, by intro w' hSw; go_simp⟩) ?_
        (try simp only [Act.put, List.setIfInBounds_toArray, List.set_cons_zero, List.set_cons_succ])
        refine wpAnyH_done (by kernel_rfl) ?_ _
        go_wp2
        obtain ⟨⟨a1, c1, e1, b1⟩, hG⟩ := HF.out (.string s) (.slice av L.length cv)
        exact bodyPost_ret (v := .tuple #[.agg #[.string s, (.slice av L.length cv)], .int .i64 y]) (by simp [results, Try.results18, go_sem, *]) rfl ⟨⟨s, a1, c1, L, y, by rw [e1], by omega, by omega, b1, hy0, hy1⟩, hG⟩
      · go_simp
        refine hK.out _ _ (by (try dsimp only); exact ⟨(cell_off _ _ _ _ _ _ (by omega)).trans ((cell_off _ _ _ _ _ _ (by omega)).trans hH.1), (cell_off _ _ _ _ _ _ (by omega)).trans ((cell_off _ _ _ _ _ _ (by omega)).trans hH.2)⟩) (fun hH => ?_)
        clear hK K
        (try simp only [Act.put, List.setIfInBounds_toArray, List.set_cons_zero, List.set_cons_succ])
        refine wpAnyH_ready (rs := [9]) (by kernel_rfl) (by simp) ?_
        refine AllReadyH.cons (o := _) rfl (fun K hK => ?_) AllReadyH.nil
        go_simp
        refine hK.out _ _ hH (fun hH => ?_)
        clear hK K
        (try simp only [Act.put, List.setIfInBounds_toArray, List.set_cons_zero, List.set_cons_succ])
        refine takeD (i := 11) (d := 3) (v := .int .i64 y) rfl rfl (by kernel_rfl) (by kernel_rfl) (by kernel_rfl) (fun _ _ _ h => h) hH (Or.inl ⟨by rfl, by intro w' hSw; go_simp⟩) ?_
        (try simp only [Act.put, List.setIfInBounds_toArray, List.set_cons_zero, List.set_cons_succ])
        refine wpAnyH_done (by kernel_rfl) ?_ _
        go_wp2
        obtain ⟨⟨a1, c1, e1, b1⟩, hG⟩ := HF.out (.string s) (.slice av L.length cv)
        exact bodyPost_ret (v := .tuple #[.agg #[.string s, (.slice av L.length cv)], .int .i64 y]) (by simp [results, Try.results18, go_sem, *]) rfl ⟨⟨s, a1, c1, L, y, by rw [e1], by omega, by omega, b1, hy0, hy1⟩, hG⟩
    · obtain ⟨hP0, ⟨r0, hr0⟩, ⟨r1, hr1⟩, fr0, fr1⟩ := Aw5.2.2.1
      have HF : Hid _ := cs_fin Aw5
      have hdq := Aw5.2.2.2.2.2
      have hqw := Aw5.2.2.2.1.1
      go_simp
      refine hK.out _ _ (by (try dsimp only); exact ⟨(cell_off _ _ _ _ _ _ (by omega)).trans ((cell_off _ _ _ _ _ _ (by omega)).trans hH.1), (cell_off _ _ _ _ _ _ (by omega)).trans ((cell_off _ _ _ _ _ _ (by omega)).trans hH.2)⟩) (fun hH => ?_)
      clear hK K
      (try simp only [Act.put, List.setIfInBounds_toArray, List.set_cons_zero, List.set_cons_succ])
      obtain ⟨wz, hwz⟩ : ∃ wz, wz = (w5.setCell ⟨w.heap.size, 0, none⟩ (.string s)).setCell ⟨w.heap.size, 1, none⟩ (.slice av L.length cv) := ⟨_, rfl⟩
      rw [← hwz] at hH ⊢
      have HF2 : Hid ((∃ a1 c1, (.slice av L.length cv : Value) = .slice a1 L.length c1 ∧ Boxes wz a1 L) ∧ Gr w wz) := hwz ▸ HF.out (.string s) (.slice av L.length cv)
      have hr2 : wz.cell? ⟨w.heap.size, 0, none⟩ = some (.string s) := by rw [hwz]; exact (cell_off _ _ _ _ _ _ (by simp)).trans (World.cell?_setCell_same _ _ _ hr0)
      have hr3 : wz.cell? ⟨w.heap.size, 1, none⟩ = some (.slice av L.length cv) := by rw [hwz]; exact World.cell?_setCell_same _ _ _ ((cell_off _ _ _ _ _ _ (by simp)).trans hr1)
      have hzs : w.heap.size < wz.heap.size := by rw [hwz]; simp; omega
      have hqz : w2.heap.size < wz.heap.size := by rw [hwz]; simp; omega
      clear hwz HF hr0 hr1 fr0 fr1 Aw5
      refine wpAnyH_ready (rs := [5]) (by kernel_rfl) (by simp) ?_
      refine AllReadyH.cons (o := _) rfl (fun K hK => ?_) AllReadyH.nil
      go_simp
      refine hK.out _ _ (by (try dsimp only); exact ⟨(((Gr.refl wz).alloc _).cells.1 _ _ hqz).trans hH.1, (((Gr.refl wz).alloc _).cells.1 _ _ hqz).trans hH.2⟩) (fun hH => ?_)
      clear hK K
      (try simp only [Act.put, List.setIfInBounds_toArray, List.set_cons_zero, List.set_cons_succ])
      obtain ⟨k, rfl⟩ := Int.eq_ofNat_of_zero_le x50
      obtain ⟨y, hy, hy0, hy1⟩ : ∃ y, (wz.alloc (.cells #[.int .i64 x3, .int .i64 x4, .int .i64 (-1), .int .i64 0, .int .i64 10000, .int .i64 9223372036854775807] 3)).cell? ⟨wz.heap.size, k, none⟩ = some (.int .i64 y) ∧ -1 ≤ y ∧ y ≤ 9223372036854775807 := by
        rcases (by omega : k = 0 ∨ k = 1 ∨ k = 2 ∨ k = 3 ∨ k = 4 ∨ k = 5) with rfl | rfl | rfl | rfl | rfl | rfl
        · exact ⟨x3, by simp, by omega, by omega⟩
        · exact ⟨x4, by simp, by omega, by omega⟩
        · exact ⟨-1, by simp, by omega, by omega⟩
        · exact ⟨0, by simp, by omega, by omega⟩
        · exact ⟨10000, by simp, by omega, by omega⟩
        · exact ⟨9223372036854775807, by simp, by omega, by omega⟩
      refine takeD (i := 8) (d := 18) (v := .pointer (some ⟨wz.heap.size, k, none⟩)) rfl rfl (by kernel_rfl) (by kernel_rfl) (by kernel_rfl) (fun _ _ _ h => h) hH (Or.inl ⟨by rfl, by intro w' hSw; go_simp⟩) ?_
      (try simp only [Act.put, List.setIfInBounds_toArray, List.set_cons_zero, List.set_cons_succ])
      refine wpAnyH_ready (rs := [9]) (by kernel_rfl) (by simp) ?_
      refine AllReadyH.cons (o := _) rfl (fun K hK => ?_) AllReadyH.nil
      go_simp
      refine hK.out _ _ hH (fun hH => ?_)
      clear hK K
      (try simp only [Act.put, List.setIfInBounds_toArray, List.set_cons_zero, List.set_cons_succ])
      refine takeD (i := 11) (d := 3) (v := .int .i64 y) rfl rfl (by kernel_rfl) (by kernel_rfl) (by kernel_rfl) (fun _ _ _ h => h) hH (Or.inl ⟨by rfl, by intro w' hSw; go_simp⟩) ?_
      (try simp only [Act.put, List.setIfInBounds_toArray, List.set_cons_zero, List.set_cons_succ])
      refine wpAnyH_done (by kernel_rfl) ?_ _
      go_wp2
      obtain ⟨⟨a1, c1, e1, b1⟩, hG⟩ := HF2.out
      exact bodyPost_ret (v := .tuple #[.agg #[.string s, (.slice av L.length cv)], .int .i64 y]) (by simp [results, Try.results18, go_sem, *]) rfl ⟨⟨s, a1, c1, L, y, by rw [e1], by omega, by omega, boxes_gr b1 ((Gr.refl _).alloc _), hy0, hy1⟩, hG.trans ((Gr.refl _).alloc _)⟩
end Go.Proofs.Ytpdcgjkfilohcaa
