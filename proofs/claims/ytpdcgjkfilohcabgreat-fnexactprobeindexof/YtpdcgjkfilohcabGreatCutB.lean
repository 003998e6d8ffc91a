import Derived.Test.YtpdcgjkfilohcabGreatCutA
import Derived.Test.YtpdcgjkfilohcabGreatSmallD
namespace Go.Proofs.YtpdcgjkfilohcabGreat
open Go.RowKit
attribute [local go_sem ↓] Go.wp_at_zero Go.wp_at_succ

def cutS (s : ByteArray) (bs : List Bx) : ByteArray := if tubeB s bs then s else ⟨#[]⟩
def cutT (f : Int) (s : ByteArray) (bs : List Bx) : List Bx := if tubeB s bs then cutL f bs else []

theorem ownL_set {w w' : World} {v : Value} {bs : List Bx} (h : OwnL w w' v bs) (p : Addr) (u : Value) (hp : p.block < w.heap.size) : OwnL w (w'.setCell p u) v bs := by
  obtain ⟨a, cap, hv, hr, hb⟩ := h
  refine ⟨a, cap, hv, fun g o sp e => ?_, fun k hk => ?_⟩
  · obtain ⟨h0, h1, h2, h3, h4⟩ := hr g o sp e
    exact ⟨h0, h1, h2, by rw [World.size_setCell]; exact h3, fun k hk => room_set (h4 k hk) p u (by omega)⟩
  · obtain ⟨g, o, e, hg, hx⟩ := hb k hk
    obtain ⟨h0, h1, h2, h3, h4⟩ := hr g o none e
    exact ⟨g, o, e, by rw [World.size_setCell]; exact hg, six_set hx p u (by omega)⟩
theorem ownL_old {w0 w w' : World} {v : Value} {bs : List Bx} (h : OwnL w w' v bs) (hs : w0.heap.size ≤ w.heap.size) : OwnL w0 w' v bs := by
  obtain ⟨a, cap, hv, hr, hb⟩ := h
  refine ⟨a, cap, hv, fun g o sp e => ?_, hb⟩
  obtain ⟨h0, h1, h2, h3, h4⟩ := hr g o sp e
  exact ⟨h0, h1, by omega, h3, h4⟩
theorem ownL_nil (w w' : World) : OwnL w w' (.slice none 0 0) [] := ⟨none, 0, rfl, fun g o sp e => by simp at e, fun k hk => by simp at hk⟩

end Go.Proofs.YtpdcgjkfilohcabGreat
