import Derived.Test.YtpdcgjkfilohcabGreatDrawH
namespace Go.Proofs.YtpdcgjkfilohcabGreat
open Go.RowKit
attribute [local go_sem ↓] Go.wp_at_zero Go.wp_at_succ

theorem boxes_flat {w : World} {g o : Nat} {bs : List Bx} (h : Boxes w (some ⟨g, o, none⟩) bs) : ∀ j u, (flat bs)[j]? = some u → w.cell? ((⟨g, o, none⟩ : Addr).add j) = some u := by
  intro j u hu
  have hl : (flat bs).length = bs.length * 6 := by
    clear h hu
    induction bs with
    | nil => rfl
    | cons b bs ih => simp only [flat, List.flatMap_cons, List.length_append] at *; rw [ih]; simp [Bx.vals]; omega
  have hj : j < bs.length * 6 := by rw [← hl]; exact (List.getElem?_eq_some_iff.1 hu).1
  have e : (⟨g, o, none⟩ : Addr).add j = ⟨g, o + j, none⟩ := by unfold Addr.add; split <;> simp_all
  rw [e]
  obtain ⟨g', o', e', -, hx⟩ := h (j / 6) (by omega)
  cases e'
  have hd : j / 6 * 6 + j % 6 = j := by omega
  have hf := flat_get bs (j / 6) (j % 6) (by omega) (by omega)
  rw [hd, hu] at hf
  obtain ⟨c0, c1, c2, c3, c4, c5⟩ := hx
  rcases (by omega : j % 6 = 0 ∨ j % 6 = 1 ∨ j % 6 = 2 ∨ j % 6 = 3 ∨ j % 6 = 4 ∨ j % 6 = 5) with h6 | h6 | h6 | h6 | h6 | h6 <;> (rw [h6] at hf; simp [Bx.vals] at hf; subst hf)
  · rw [show o + j = o + j / 6 * 6 by omega]; exact c0
  · rw [show o + j = o + j / 6 * 6 + 1 by omega]; exact c1
  · rw [show o + j = o + j / 6 * 6 + 2 by omega]; exact c2
  · rw [show o + j = o + j / 6 * 6 + 3 by omega]; exact c3
  · rw [show o + j = o + j / 6 * 6 + 4 by omega]; exact c4
  · rw [show o + j = o + j / 6 * 6 + 5 by omega]; exact c5
theorem flat_one (bs : List Bx) : ∀ u ∈ flat bs, u.oneCell' = true := fun u hu => by
  simp only [flat, List.mem_flatMap] at hu
  obtain ⟨b, -, hb⟩ := hu
  exact vals_one b u hb
theorem flat_len (bs : List Bx) : (flat bs).length = bs.length * 6 := by
  induction bs with
  | nil => rfl
  | cons b bs ih => simp only [flat, List.flatMap_cons, List.length_append] at *; rw [ih]; simp [Bx.vals]; omega

end Go.Proofs.YtpdcgjkfilohcabGreat
