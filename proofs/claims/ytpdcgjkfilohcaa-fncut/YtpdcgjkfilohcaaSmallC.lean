import Derived.Test.YtpdcgjkfilohcaaSmallB
namespace Go.Proofs.Ytpdcgjkfilohcaa
open Go.RowKit
attribute [local go_sem ↓] Go.wp_at_zero Go.wp_at_succ

theorem two_pairs {w w1 : World} {u0 u1 v0 v1 : Value} {p q : TypeId} (g : Gr ((w.alloc (.cells #[u0, u1] p)).alloc (.cells #[v0, v1] q)) w1) :
    w.heap.size + 1 < w1.heap.size ∧ w1.cell? ⟨w.heap.size, 0, none⟩ = some u0 ∧ w1.cell? ⟨w.heap.size, 1, none⟩ = some u1 ∧ w1.cell? ⟨w.heap.size + 1, 0, none⟩ = some v0 ∧ w1.cell? ⟨w.heap.size + 1, 1, none⟩ = some v1 :=
  ⟨by have := g.size; simp at this; omega, (g.cells.1 _ _ (by simp <;> omega)).trans (by simp), (g.cells.1 _ _ (by simp <;> omega)).trans (by simp), (g.cells.1 _ _ (by simp <;> omega)).trans (by simp), (g.cells.1 _ _ (by simp <;> omega)).trans (by simp)⟩

theorem keepS {wr wq w' : World} {g o g' o' p : Nat} {c b : Bx} {u0 u1 v0 v1 : Value}
    (h : Six wq g o c ∧ Six wq g' o' b ∧ (wq.cell? ⟨p, 0, none⟩ = some u0 ∧ wq.cell? ⟨p, 1, none⟩ = some u1 ∧ wq.cell? ⟨p + 1, 0, none⟩ = some v0 ∧ wq.cell? ⟨p + 1, 1, none⟩ = some v1))
    (hg : g < wq.heap.size) (hg' : g' < wq.heap.size) (hp : p + 1 < wr.heap.size) (gq : Gr wr wq) (gr : Gr wq w') :
    Gr wq w' ∧ Six w' g o c ∧ Six w' g' o' b ∧ (w'.cell? ⟨p, 0, none⟩ = some u0 ∧ w'.cell? ⟨p, 1, none⟩ = some u1 ∧ w'.cell? ⟨p + 1, 0, none⟩ = some v0 ∧ w'.cell? ⟨p + 1, 1, none⟩ = some v1) :=
  have hs := gq.size
  ⟨gr, six_gr h.1 gr hg, six_gr h.2.1 gr hg', (gr.cells.1 _ _ (by omega)).trans h.2.2.1, (gr.cells.1 _ _ (by omega)).trans h.2.2.2.1, (gr.cells.1 _ _ (by omega)).trans h.2.2.2.2.1, (gr.cells.1 _ _ (by omega)).trans h.2.2.2.2.2⟩

/-- Some of the boxes covers box c. -/
def covB (bs : List Bx) (c : Bx) : Bool := bs.any fun b => coverB b c

set_option maxHeartbeats 4000000 in
theorem specSmaller_any (s t : ByteArray) (a a' : Option Addr) (cap cap' : Nat) (cs bs : List Bx) (w : World) (hs : s.size ≤ maxLen) (ht : t.size ≤ maxLen) (ha : Boxes w a cs) (hb : Boxes w a' bs) (hn : cs.length ≤ 1048576) (hm : bs.length ≤ 1048576) :
    Calls Try.prog 39 #[.agg #[.string s, .slice a cs.length cap], .agg #[.string t, .slice a' bs.length cap']] w fun e w' => e = .returned (.bool (smallB s cs t bs)) ∧ Gr w w' := by
  have G := Gr.refl ((w.alloc (.cells #[.string s, .slice a cs.length cap] 25)).alloc (.cells #[.string t, .slice a' bs.length cap'] 25))
  have GB : Gr w ((w.alloc (.cells #[.string s, .slice a cs.length cap] 25)).alloc (.cells #[.string t, .slice a' bs.length cap'] 25)) := ((Gr.refl _).alloc _).alloc _
  cases hA : tubeB s cs
  · have HV : Hid (smallB s cs t bs = false) := by show smallB s cs t bs = false; simp [smallB, hA]
    go_enter Try.func39, Try.ntmps39
    go_wp2_with (go_at_call 14; refine (specTubeOk_any _ _ _ cs _ hs (boxes_gr ha (GB.trans G)) hn).mono ?_; rintro e w1 ⟨rfl, g1⟩; replace G := G.trans g1; clear g1; obtain ⟨hc, hf⟩ := G.cells)
    go_ret
    exact ⟨by rw [HV.out]; rfl, GB.trans G⟩
  cases hB : tubeB t bs
  · have HV : Hid (smallB s cs t bs = false) := by show smallB s cs t bs = false; simp [smallB, hB]
    go_enter Try.func39, Try.ntmps39
    go_wp2_with fail
    refine (specTubeOk_any _ _ _ cs _ hs (boxes_gr ha (GB.trans G)) hn).mono ?_
    rintro e w1 ⟨rfl, g1⟩
    replace G := G.trans g1
    obtain ⟨hc, hf⟩ := G.cells
    go_wp2_with fail
    refine (specTubeOk_any _ _ _ bs _ ht (boxes_gr hb (GB.trans G)) hm).mono ?_
    rintro e w2 ⟨rfl, g2⟩
    go_wp2
    go_ret
    exact ⟨by rw [HV.out]; rfl, GB.trans (G.trans g2)⟩
  have HV : Hid (smallB s cs t bs = cs.all (covB bs)) := by show smallB s cs t bs = _; rw [smallB, hA, hB]; rfl
  go_enter Try.func39, Try.ntmps39
  go_wp2_with fail
  refine (specTubeOk_any _ _ _ cs _ hs (boxes_gr ha (GB.trans G)) hn).mono ?_
  rintro e w1 ⟨rfl, g1⟩
  replace G := G.trans g1
  obtain ⟨hc, hf⟩ := G.cells
  go_wp2_with fail
  refine (specTubeOk_any _ _ _ bs _ ht (boxes_gr hb (GB.trans G)) hm).mono ?_
  rintro e w2 ⟨rfl, g2⟩
  replace G := G.trans g2
  clear hc hf g1 g2
  go_wp2_with fail
  go_loopw [5] (fun i wr => ∃ k : Nat, k ≤ cs.length ∧ i = .int .i64 k ∧ Gr ((w.alloc (.cells #[.string s, .slice a cs.length cap] 25)).alloc (.cells #[.string t, .slice a' bs.length cap'] 25)) wr ∧ Hid ((cs.take k).all (covB bs) = true)) (fun i _ => cs.length - (intOf i).toNat)
  case atStart => exact ⟨0, Nat.zero_le _, rfl, G, by show (cs.take 0).all (covB bs) = true; simp⟩
  case round =>
    obtain ⟨k, hk, rfl, gr, hq⟩ := hrel
    obtain ⟨hl, e0, e1, e2, e3⟩ := two_pairs gr
    by_cases hkl : k < cs.length
    · obtain ⟨g, o, rfl, hg, hx⟩ := ha k hkl
      have HN : Hid (covB bs (cs.getD k Bx.nil) = true → (cs.take (k + 1)).all (covB bs) = true) := fun h => by rw [all_snoc cs k hkl, hq.out, h]; rfl
      have HF : Hid (covB bs (cs.getD k Bx.nil) = false → cs.all (covB bs) = false) := fun h => all_stop cs k hkl h
      have hi0 : (0 : Int) ≤ (k : Int) := by omega
      have hi1 : (k : Int) < (cs.length : Int) := by omega
      clear hq
      generalize cs.getD k Bx.nil = c at *
      have HG : Hid (Gr _ wr) := gr
      clear G
      go_wp2_with fail
      go_loopw [6, 7] (fun f i wq => ∃ j : Nat, j ≤ bs.length ∧ i = .int .i64 j ∧ f = .bool (covB (bs.take j) c) ∧ Gr wr wq) (fun _ i _ => bs.length - (intOf i).toNat)
      case atStart => exact ⟨0, Nat.zero_le _, rfl, rfl, Gr.refl _⟩
      case round =>
        obtain ⟨j, hj, rfl, rfl, gq⟩ := hrel
        obtain ⟨-, q0, q1, q2, q3⟩ := two_pairs (HG.out.trans gq)
        by_cases hjl : j < bs.length
        · obtain ⟨g', o', rfl, hg', hx'⟩ := hb j hjl
          have hj0 : (0 : Int) ≤ (j : Int) := by omega
          have hj1 : (j : Int) < (bs.length : Int) := by omega
          have HS : Hid (covB (bs.take (j + 1)) c = (covB (bs.take j) c || coverB (bs.getD j Bx.nil) c)) := any_snoc bs j hjl
          generalize bs.getD j Bx.nil = b at *
          have y := six_gr hx (GB.trans (HG.out.trans gq)) hg
          have y' := six_gr hx' (GB.trans (HG.out.trans gq)) hg'
          have hsz := (GB.trans (HG.out.trans gq)).size
          cases hcv : covB (bs.take j) c
          · have HS' : Hid (covB (bs.take (j + 1)) c = coverB b c) := by show covB (bs.take (j + 1)) c = _; rw [HS.out, hcv]; rfl
            have HY : Hid (Six wr g (o + k * 6) c ∧ Six wr g' (o' + j * 6) b ∧ (wr.cell? ⟨w.heap.size, 0, none⟩ = some (.string s) ∧ wr.cell? ⟨w.heap.size, 1, none⟩ = some (.slice (some ⟨g, o, none⟩) cs.length cap) ∧ wr.cell? ⟨w.heap.size + 1, 0, none⟩ = some (.string t) ∧ wr.cell? ⟨w.heap.size + 1, 1, none⟩ = some (.slice (some ⟨g', o', none⟩) bs.length cap'))) := ⟨y, y', q0, q1, q2, q3⟩
            clear y y' HS hx hx'
            go_wp2_with fail
            clear q0 q1 q2 q3
            go_region_held3 (fun w' => Gr wr w' ∧ (w'.cell? ⟨g, o + k * 6, none⟩ = some (.int .i64 c.x) ∧ w'.cell? ⟨g, o + k * 6 + 1, none⟩ = some (.int .i64 c.y) ∧ w'.cell? ⟨g, o + k * 6 + 2, none⟩ = some (.int .i64 c.l) ∧ w'.cell? ⟨g, o + k * 6 + 3, none⟩ = some (.int .i64 c.h) ∧ w'.cell? ⟨g, o + k * 6 + 4, none⟩ = some (.int .i64 c.i) ∧ w'.cell? ⟨g, o + k * 6 + 5, none⟩ = some (.int .i64 c.o)) ∧ (w'.cell? ⟨g', o' + j * 6, none⟩ = some (.int .i64 b.x) ∧ w'.cell? ⟨g', o' + j * 6 + 1, none⟩ = some (.int .i64 b.y) ∧ w'.cell? ⟨g', o' + j * 6 + 2, none⟩ = some (.int .i64 b.l) ∧ w'.cell? ⟨g', o' + j * 6 + 3, none⟩ = some (.int .i64 b.h) ∧ w'.cell? ⟨g', o' + j * 6 + 4, none⟩ = some (.int .i64 b.i) ∧ w'.cell? ⟨g', o' + j * 6 + 5, none⟩ = some (.int .i64 b.o)) ∧ (w'.cell? ⟨w.heap.size, 0, none⟩ = some (.string s) ∧ w'.cell? ⟨w.heap.size, 1, none⟩ = some (.slice (some ⟨g, o, none⟩) cs.length cap) ∧ w'.cell? ⟨w.heap.size + 1, 0, none⟩ = some (.string t) ∧ w'.cell? ⟨w.heap.size + 1, 1, none⟩ = some (.slice (some ⟨g', o', none⟩) bs.length cap')))
              (first | exact keepS HY.out (by omega) (by omega) hl gq (Gr.refl _).drew | exact keepS HY.out (by omega) (by omega) hl gq ((Gr.refl _).drew.trans g3))
              (first
                | (go_at_call 76; refine (cover_any b c _).mono ?_; rintro e w3 ⟨rfl, g3⟩))
            go_wp2
            go_roundw
            case rel => exact ⟨j + 1, by omega, by go_num, by rw [HS'.out], gq.trans ((Gr.refl _).drew.trans g3)⟩
            case measure => simp [intOf]; omega
          · have HS' : Hid (covB (bs.take (j + 1)) c = true) := by show covB (bs.take (j + 1)) c = _; rw [HS.out, hcv]; rfl
            clear y y' HS hx hx'
            go_wp2_with fail
            go_quiet (fail)
            go_wp2
            go_roundw
            case rel => exact ⟨j + 1, by omega, by go_num, by rw [HS'.out], gq.drewN _⟩
            case measure => simp [intOf]; omega
        · have hall : bs.take j = bs := List.take_of_length_le (by omega)
          rw [hall]
          cases hok : covB bs c
          · have HR : Hid (cs.all (covB bs) = false) := HF.out hok
            clear HF HN
            go_wp2
            go_ret
            exact ⟨by rw [HV.out, HR.out]; rfl, GB.trans (HG.out.trans gq)⟩
          · have HR : Hid ((cs.take (k + 1)).all (covB bs) = true) := HN.out hok
            clear HF HN
            go_wp2
            go_roundw
            case rel => exact ⟨k + 1, by omega, by go_num, HG.out.trans gq, HR⟩
            case measure => simp [intOf]; omega
    · go_wp2
      go_ret
      exact ⟨by rw [HV.out, ← all_all cs k hkl, hq.out]; rfl, GB.trans gr⟩

end Go.Proofs.Ytpdcgjkfilohcaa
