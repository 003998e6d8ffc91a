import Derived.Test.YtpdcgjkfilohcaaDrawJ
namespace Go.Proofs.Ytpdcgjkfilohcaa
open Go.RowKit
attribute [local go_sem ↓] Go.wp_at_zero Go.wp_at_succ

/-- A drawn tube, as its callers take it. -/
def Drawn (d : Rdr) (w : World) (p : Nat) (e : Ending) (w' : World) : Prop :=
  (∃ s v L, e = .returned (.agg #[.string s, v]) ∧ s.size ≤ 64 ∧ L.length ≤ 48 ∧ OwnL w w' v L ∧ (v = .slice none 0 0 ∨ ∃ g c, v = .slice (some ⟨g, 0, none⟩) L.length c)) ∧ (∃ p', Rd d w' p' ∧ p' ≤ p) ∧ But d.r w w'
def SpoilIs : Prop := ∀ (d : Rdr) (p : Nat) (s : ByteArray) (v : Value) (L : List Bx) (w0 w : World), Rd d w p → p ≤ 800000 → s.size ≤ 64 → L.length ≤ 48 → OwnL w0 w v L → (v = .slice none 0 0 ∨ ∃ g c, v = .slice (some ⟨g, 0, none⟩) L.length c) → Calls Try.prog 79 #[.pointer (some ⟨d.r, 0, none⟩), .agg #[.string s, v]] w (Drawn d w (p + 2000))

set_option maxRecDepth 100000 in
set_option maxHeartbeats 4000000 in
theorem l2Any_of (HSp : Hid SpoilIs) (d : Rdr) (p : Nat) (w : World) (h : Rd d w p) (hp : p ≤ 400000) :
    Calls Try.prog 41 #[.pointer (some ⟨d.r, 0, none⟩)] w (Drawn d w (p + 5000)) := by
  have hr : d.r < w.heap.size := h.2.2.2.2.2.1
  have GG : Gr w ((w.alloc (.cells #[.string ⟨#[]⟩, .slice none 0 0] 25)).alloc (.cells #[.string ⟨#[97, 49]⟩, .string ⟨#[98]⟩, .string ⟨#[99, 45, 99]⟩, .string ⟨#[113]⟩] 9)) := ((Gr.refl _).alloc _).alloc _
  have e1 : (w.alloc (.cells #[.string ⟨#[]⟩, .slice none 0 0] 25)).heap.size = w.heap.size + 1 := by simp
  have PA : PairAt ((w.alloc (.cells #[.string ⟨#[]⟩, .slice none 0 0] 25)).alloc (.cells #[.string ⟨#[97, 49]⟩, .string ⟨#[98]⟩, .string ⟨#[99, 45, 99]⟩, .string ⟨#[113]⟩] 9)) w.heap.size := pair_new ((Gr.refl _).alloc _)
  have HSt : Hid (StrsAt ((w.alloc (.cells #[.string ⟨#[]⟩, .slice none 0 0] 25)).alloc (.cells #[.string ⟨#[97, 49]⟩, .string ⟨#[98]⟩, .string ⟨#[99, 45, 99]⟩, .string ⟨#[113]⟩] 9)) (w.heap.size + 1) [⟨#[97, 49]⟩, ⟨#[98]⟩, ⟨#[99, 45, 99]⟩, ⟨#[113]⟩]) := by
    refine ⟨by simp, fun k hk => ?_⟩
    rcases (by simp at hk; omega : k = 0 ∨ k = 1 ∨ k = 2 ∨ k = 3) with rfl | rfl | rfl | rfl <;> simp
  have R := rd_gr h GG
  clear h
  go_enter Try.func41, Try.ntmps41
  go_wp2_with fail
  refine (of_any d p (w.heap.size + 1) 4 [⟨#[97, 49]⟩, ⟨#[98]⟩, ⟨#[99, 45, 99]⟩, ⟨#[113]⟩] _ R (by omega) HSt.out (by omega) (by simp) (by simp)).mono ?_
  rintro e w1 ⟨⟨k, hk, rfl⟩, R1, M1⟩
  obtain ⟨s, hs, hsz⟩ : ∃ s : ByteArray, ([⟨#[97, 49]⟩, ⟨#[98]⟩, ⟨#[99, 45, 99]⟩, ⟨#[113]⟩] : List ByteArray).getD k ⟨#[]⟩ = s ∧ s.size ≤ 64 := by
    refine ⟨_, rfl, ?_⟩
    rcases (by simp at hk; omega : k = 0 ∨ k = 1 ∨ k = 2 ∨ k = 3) with rfl | rfl | rfl | rfl <;> decide
  rw [hs]
  clear hs hk
  go_wp2_with fail
  refine (l2Tube_any d (p + 1) s w1 R1 (by omega)).mono ?_
  rintro e w2 ⟨⟨v, L, rfl, hL, HO, HV⟩, ⟨p2, R2, hp2⟩, M2⟩
  obtain ⟨av, cv, rfl⟩ : ∃ av cv, v = .slice av L.length cv := by obtain ⟨a, c, e, -⟩ := HO; exact ⟨a, c, e⟩
  have PA2 := pair_but (pair_but PA M1 (by omega)) M2 (by omega)
  have hs1 := M1.size
  simp only [World.size_alloc] at hs1
  have hs2 := M2.size
  have HOh : Hid (OwnL w1 w2 (.slice av L.length cv) L) := HO
  have HVh : Hid ((.slice av L.length cv : Value) = .slice none 0 0 ∨ ∃ g c, (.slice av L.length cv : Value) = .slice (some ⟨g, 0, none⟩) L.length c) := HV
  clear HO HV
  go_wp2_with fail
  refine (rd_pickB d p2 _ _ (rd_gr R2 ((Gr.refl _).alloc _)) (by omega) (by omega) (by omega)).mono ?_
  rintro e w3 ⟨⟨x, rfl, x0, x1⟩, R3, M3⟩
  have M3' : But d.r w2 w3 := (But.of_gr ((Gr.refl w2).alloc _)).trans M3
  have PA3 := pair_but PA2 M3' (by omega)
  have HO3 : Hid (OwnL w1 w3 (.slice av L.length cv) L) := ownL_but HOh.out M3' (by omega)
  have t0 : w3.cell? ⟨w2.heap.size, 0, none⟩ = some (.string s) := (M3.cell (q := w2.heap.size) (by simp) (by omega) 0).trans (by simp)
  have t1 : w3.cell? ⟨w2.heap.size, 1, none⟩ = some (.slice av L.length cv) := (M3.cell (q := w2.heap.size) (by simp) (by omega) 1).trans (by simp)
  have MW : But d.r w w3 := (But.of_gr GG).trans (M1.trans (M2.trans M3'))
  clear PA PA2 HSt R R1 R2 M1 M2 M3 M3' HOh
  obtain ⟨hP1, ⟨u0, hu0⟩, ⟨u1, hu1⟩, fr0, fr1⟩ := PA3
  by_cases hx : x = 0
  · have e0 : (x == 0) = true := by simp [hx]
    clear hx
    have hP3 : PairAt w3 w.heap.size := ⟨hP1, ⟨u0, hu0⟩, ⟨u1, hu1⟩, fr0, fr1⟩
    go_wp2_with fail
    refine (HSp.out d (p2 + 1) s _ L w1 w3 R3 (by omega) hsz hL HO3.out HVh.out).mono ?_
    rintro e w4 ⟨⟨s', v', L', rfl, hs', hL', HO', HV'⟩, ⟨p4, R4, hp4⟩, M4⟩
    obtain ⟨av', cv', rfl⟩ : ∃ av cv, v' = .slice av L'.length cv := by obtain ⟨a, c, e, -⟩ := HO'; exact ⟨a, c, e⟩
    clear hu0 hu1 fr0 fr1
    obtain ⟨hP4, ⟨y0, hy0⟩, ⟨y1, hy1⟩, fs0, fs1⟩ := pair_but hP3 M4 (by omega)
    have MW4 := MW.trans M4
    have HVh' : Hid ((.slice av' L'.length cv' : Value) = .slice none 0 0 ∨ ∃ g c, (.slice av' L'.length cv' : Value) = .slice (some ⟨g, 0, none⟩) L'.length c) := HV'
    have HF : Hid (∀ u0 u1, Rd d ((w4.setCell ⟨w.heap.size, 0, none⟩ u0).setCell ⟨w.heap.size, 1, none⟩ u1) p4 ∧ But d.r w ((w4.setCell ⟨w.heap.size, 0, none⟩ u0).setCell ⟨w.heap.size, 1, none⟩ u1) ∧ OwnL w ((w4.setCell ⟨w.heap.size, 0, none⟩ u0).setCell ⟨w.heap.size, 1, none⟩ u1) (.slice av' L'.length cv') L') := fun u0 u1 => ⟨rd_set (rd_set R4 _ _ (by dsimp only; omega)) _ _ (by dsimp only; omega), but_set _ (but_set _ MW4 (by omega)) (by omega), ownL_old (ownL_set (ownL_set HO' _ _ (by dsimp only; omega)) _ _ (by dsimp only; omega)) (by omega)⟩
    clear MW MW4 HO3 R3 R4 M4 HO' HV' hP3 HVh
    go_wp2
    refine bodyPost_ret (v := .agg #[.string s', .slice av' L'.length cv']) (by simp [results, Try.results41, go_sem, *]) rfl ⟨⟨s', _, L', rfl, hs', hL', (HF.out _ _).2.2, HVh'.out⟩, ⟨p4, (HF.out _ _).1, by omega⟩, (HF.out _ _).2.1⟩
  · have e0 : (x == 0) = false := by simp [hx]
    clear hx
    have HF : Hid (∀ u0 u1, Rd d ((w3.setCell ⟨w.heap.size, 0, none⟩ u0).setCell ⟨w.heap.size, 1, none⟩ u1) (p2 + 1) ∧ But d.r w ((w3.setCell ⟨w.heap.size, 0, none⟩ u0).setCell ⟨w.heap.size, 1, none⟩ u1) ∧ OwnL w ((w3.setCell ⟨w.heap.size, 0, none⟩ u0).setCell ⟨w.heap.size, 1, none⟩ u1) (.slice av L.length cv) L) := fun u0 u1 => ⟨rd_set (rd_set R3 _ _ (by dsimp only; omega)) _ _ (by dsimp only; omega), but_set _ (but_set _ MW (by omega)) (by omega), ownL_old (ownL_set (ownL_set HO3.out _ _ (by dsimp only; omega)) _ _ (by dsimp only; omega)) (by omega)⟩
    clear MW HO3 R3
    go_wp2
    refine bodyPost_ret (v := .agg #[.string s, .slice av L.length cv]) (by simp [results, Try.results41, go_sem, *]) rfl ⟨⟨s, _, L, rfl, hsz, hL, (HF.out _ _).2.2, HVh.out⟩, ⟨p2 + 1, (HF.out _ _).1, by omega⟩, (HF.out _ _).2.1⟩
end Go.Proofs.Ytpdcgjkfilohcaa
