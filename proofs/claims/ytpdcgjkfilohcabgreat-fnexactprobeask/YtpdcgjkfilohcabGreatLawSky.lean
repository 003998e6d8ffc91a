import Derived.Test.YtpdcgjkfilohcabGreatSkyAD
namespace Go.Proofs.YtpdcgjkfilohcabGreat
open Go.RowKit

theorem small_like {us ts : List Tb} (h : Like us ts) (hS : Small ts) : Small us := by
  obtain ⟨hl, hk⟩ := h
  refine ⟨by rw [hl]; exact hS.1, fun k hkl => ?_⟩
  have h1 := hk k (by omega)
  have h2 := hS.2 k (by omega)
  have e1 : (us.getD k Tb.nil).s = (ts.getD k Tb.nil).s := h1.1
  have e2 : (us.getD k Tb.nil).bs = (ts.getD k Tb.nil).bs := h1.2
  rw [e1, e2]
  exact h2
theorem like_two {us vs ts : List Tb} (h : Like us ts) (h' : Like vs ts) : Like us vs := by
  refine ⟨h.1.trans h'.1.symm, fun k hk => ?_⟩
  have hk' : k < ts.length := by rw [← h'.1]; exact hk
  exact ⟨(h.2 k hk').1.trans (h'.2 k hk').1.symm, (h.2 k hk').2.trans (h'.2 k hk').2.symm⟩

end Go.Proofs.YtpdcgjkfilohcabGreat
