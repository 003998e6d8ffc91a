import Derived.Test.YtpdcgjkfilohcaaCutA
import Derived.Test.YtpdcgjkfilohcaaSmallD
namespace Go.Proofs.Ytpdcgjkfilohcaa
open Go.RowKit
attribute [local go_sem ↓] Go.wp_at_zero Go.wp_at_succ

def cutS (s : ByteArray) (bs : List Bx) : ByteArray := if tubeB s bs then s else ⟨#[]⟩
def cutT (f : Int) (s : ByteArray) (bs : List Bx) : List Bx := if tubeB s bs then cutL f bs else []

theorem ownL_set {w w' : World} {v : Value} {bs : List Bx} (h : OwnL w w' v bs) (p : Addr) (u : Value) (hp : p.block < w.heap.size) : OwnL w (w'.setCell p u) v bs := by
  obtain ⟨a, cap, hv, hr, hb⟩ := h
  refine ⟨a, cap, hv, fun g o sp e => ?_, fun k hk => ?_⟩
  · obtain ⟨h0, h1, h2, h3, h4⟩ := hr g o sp e
    exact ⟨h0, h1, h2, by rw [World.size_setCell]; exact h3, fun k hk => room_set (h4 k hk) p u (by omega)⟩
  · obtain ⟨g, o, e, hg, hx⟩ := hb k hk
    obtain ⟨h0, h1, h2, h3, h4⟩ := hr g o none e
    exact ⟨g, o, e, by rw [World.size_setCell]; exact hg, six_set hx p u (by omega)⟩
theorem ownL_old {w0 w w' : World} {v : Value} {bs : List Bx} (h : OwnL w w' v bs) (hs : w0.heap.size ≤ w.heap.size) : OwnL w0 w' v bs := by
  obtain ⟨a, cap, hv, hr, hb⟩ := h
  refine ⟨a, cap, hv, fun g o sp e => ?_, hb⟩
  obtain ⟨h0, h1, h2, h3, h4⟩ := hr g o sp e
  exact ⟨h0, h1, by omega, h3, h4⟩
theorem ownL_nil (w w' : World) : OwnL w w' (.slice none 0 0) [] := ⟨none, 0, rfl, fun g o sp e => by simp at e, fun k hk => by simp at hk⟩

set_option maxRecDepth 100000 in
set_option maxHeartbeats 4000000 in
theorem implCut_any (s : ByteArray) (a : Option Addr) (cap : Nat) (bs : List Bx) (f : Int) (w : World) (hs : s.size ≤ maxLen) (ha : Boxes w a bs) (hn : bs.length ≤ 1048576) :
    Calls Try.prog 19 #[.agg #[.string s, .slice a bs.length cap], .int .i64 f] w fun e w' => (∃ v, e = .returned (.agg #[.string (cutS s bs), v]) ∧ OwnL w w' v (cutT f s bs)) ∧ Gr w w' := by
  have G := Gr.refl ((w.alloc (.cells #[.string s, .slice a bs.length cap] 25)).alloc (.cells #[.string ⟨#[]⟩, .slice none 0 0] 25))
  have GB : Gr w ((w.alloc (.cells #[.string s, .slice a bs.length cap] 25)).alloc (.cells #[.string ⟨#[]⟩, .slice none 0 0] 25)) := ((Gr.refl _).alloc _).alloc _
  cases hA : tubeB s bs
  · have H1 : Hid (cutS s bs = ⟨#[]⟩) := by show cutS s bs = _; simp [cutS, hA]
    have H2 : Hid (cutT f s bs = []) := by show cutT f s bs = _; simp [cutT, hA]
    go_enter Try.func19, Try.ntmps19
    go_wp2_with (go_at_call 30; refine (implTubeOk_any _ _ _ bs _ hs (boxes_gr ha (GB.trans G)) hn).mono ?_; rintro e w1 ⟨rfl, g1⟩; replace G := Gr.trans (by first | exact G | exact G.drew) g1; (try clear hc hf); obtain ⟨hc, hf⟩ := G.cells)
    refine bodyPost_ret (v := .agg #[.string ⟨#[]⟩, .slice none 0 0]) (by simp [results, Try.results19, go_sem, hc]) rfl ⟨⟨_, by rw [H1.out], by rw [H2.out]; exact ownL_nil _ _⟩, ?_⟩
    exact ((GB.trans G).setCell (by dsimp only; omega) _).setCell (by dsimp only; omega) _
  · have H1 : Hid (cutS s bs = s) := by show cutS s bs = _; simp [cutS, hA]
    have H2 : Hid (cutT f s bs = cutL f bs) := by show cutT f s bs = _; simp [cutT, hA]
    have hfa := fun W : World => field71 W s (.slice a bs.length cap) ⟨_, _, _, rfl⟩
    go_enter Try.func19, Try.ntmps19
    go_upto_region 3 with (go_at_call 30; refine (implTubeOk_any _ _ _ bs _ hs (boxes_gr ha (GB.trans G)) hn).mono ?_; rintro e w1 ⟨rfl, g1⟩; replace G := Gr.trans (by first | exact G | exact G.drew) g1; (try clear hc hf); obtain ⟨hc, hf⟩ := G.cells; clear g1)
    go_region_with (first
      | (go_at_call 42; refine (tubeOf_any _ _ _ ⟨_, _, _, rfl⟩).mono ?_; rintro e w1 ⟨rfl, g1⟩; replace G := Gr.trans (by first | exact G | exact G.drew) g1; (try clear hc hf); obtain ⟨hc, hf⟩ := G.cells; clear g1)
      | (go_at_call 49; refine (from_any _ _ bs _ _ (boxes_gr ha (GB.trans G)) hn).mono ?_; rintro e w2 ⟨⟨v, rfl, hv⟩, g1⟩; replace hv := ownL_old (w0 := ((w.alloc (.cells #[.string s, .slice a bs.length cap] 25)).alloc (.cells #[.string ⟨#[]⟩, .slice none 0 0] 25))) hv G.size; have hv' := hv; obtain ⟨av, cv, rfl, -⟩ := hv'; replace G := Gr.trans (by first | exact G | exact G.drew) g1; (try clear hc hf); obtain ⟨hc, hf⟩ := G.cells; clear g1))
    all_goals
      go_wp2
      refine bodyPost_ret (v := .agg #[.string s, .slice av (cutL f bs).length cv]) (by simp [results, Try.results19, go_sem, hc]) rfl ⟨⟨_, by rw [H1.out], by rw [H2.out]; exact ownL_old (w0 := w) (ownL_set (ownL_set hv _ _ (by simp)) _ _ (by simp)) GB.size⟩, ?_⟩
      exact ((GB.trans G).setCell (by dsimp only; omega) _).setCell (by dsimp only; omega) _

end Go.Proofs.Ytpdcgjkfilohcaa
