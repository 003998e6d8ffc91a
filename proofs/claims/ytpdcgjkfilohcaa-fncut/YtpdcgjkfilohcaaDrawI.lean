import Derived.Test.YtpdcgjkfilohcaaDrawH
namespace Go.Proofs.Ytpdcgjkfilohcaa
open Go.RowKit
attribute [local go_sem ↓] Go.wp_at_zero Go.wp_at_succ

theorem boxes_flat {w : World} {g o : Nat} {bs : List Bx} (h : Boxes w (some ⟨g, o, none⟩) bs) : ∀ j u, (flat bs)[j]? = some u → w.cell? ((⟨g, o, none⟩ : Addr).add j) = some u := by
  intro j u hu
  have hl : (flat bs).length = bs.length * 6 := by
    clear h hu
    induction bs with
    | nil => rfl
    | cons b bs ih => simp only [flat, List.flatMap_cons, List.length_append] at *; rw [ih]; simp [Bx.vals]; omega
  have hj : j < bs.length * 6 := by rw [← hl]; exact (List.getElem?_eq_some_iff.1 hu).1
  have e : (⟨g, o, none⟩ : Addr).add j = ⟨g, o + j, none⟩ := by unfold Addr.add; split <;> simp_all
  rw [e]
  obtain ⟨g', o', e', -, hx⟩ := h (j / 6) (by omega)
  cases e'
  have hd : j / 6 * 6 + j % 6 = j := by omega
  have hf := flat_get bs (j / 6) (j % 6) (by omega) (by omega)
  rw [hd, hu] at hf
  obtain ⟨c0, c1, c2, c3, c4, c5⟩ := hx
  rcases (by omega : j % 6 = 0 ∨ j % 6 = 1 ∨ j % 6 = 2 ∨ j % 6 = 3 ∨ j % 6 = 4 ∨ j % 6 = 5) with h6 | h6 | h6 | h6 | h6 | h6 <;> (rw [h6] at hf; simp [Bx.vals] at hf; subst hf)
  · rw [show o + j = o + j / 6 * 6 by omega]; exact c0
  · rw [show o + j = o + j / 6 * 6 + 1 by omega]; exact c1
  · rw [show o + j = o + j / 6 * 6 + 2 by omega]; exact c2
  · rw [show o + j = o + j / 6 * 6 + 3 by omega]; exact c3
  · rw [show o + j = o + j / 6 * 6 + 4 by omega]; exact c4
  · rw [show o + j = o + j / 6 * 6 + 5 by omega]; exact c5
theorem flat_one (bs : List Bx) : ∀ u ∈ flat bs, u.oneCell' = true := fun u hu => by
  simp only [flat, List.mem_flatMap] at hu
  obtain ⟨b, -, hb⟩ := hu
  exact vals_one b u hb
theorem flat_len (bs : List Bx) : (flat bs).length = bs.length * 6 := by
  induction bs with
  | nil => rfl
  | cons b bs ih => simp only [flat, List.flatMap_cons, List.length_append] at *; rw [ih]; simp [Bx.vals]; omega

set_option maxRecDepth 100000 in
set_option maxHeartbeats 2000000 in
theorem copy_some (s : ByteArray) (g o cap : Nat) (bs : List Bx) (w : World) (ha : Boxes w (some ⟨g, o, none⟩) bs) (hn : bs.length ≤ 1000) :
    Calls Try.prog 87 #[.agg #[.string s, .slice (some ⟨g, o, none⟩) bs.length cap]] w fun e w' => (∃ v, e = .returned (.agg #[.string s, v]) ∧ OwnL w w' v bs ∧ w'.ownsRow (w.heap.size + 1 + 1) 36 6 v bs.length (flat bs)) ∧ Gr w w' := by
  obtain ⟨i0, hi, hz0, hz1, hz2⟩ := info_parts Try.info36
  have GG : Gr w ((w.alloc (.cells #[.string s, .slice (some ⟨g, o, none⟩) bs.length cap] 25)).alloc (.cells #[.string ⟨#[]⟩, .slice none 0 0] 25)) := ((Gr.refl _).alloc _).alloc _
  have K : Hid (∀ w', Gr ((w.alloc (.cells #[.string s, .slice (some ⟨g, o, none⟩) bs.length cap] 25)).alloc (.cells #[.string ⟨#[]⟩, .slice none 0 0] 25)) w' → Gr ((w.alloc (.cells #[.string s, .slice (some ⟨g, o, none⟩) bs.length cap] 25)).alloc (.cells #[.string ⟨#[]⟩, .slice none 0 0] 25)) w' ∧ w'.cell? ⟨w.heap.size, 0, none⟩ = some (.string s) ∧ w'.cell? ⟨w.heap.size, 1, none⟩ = some (.slice (some ⟨g, o, none⟩) bs.length cap) ∧ w'.cell? ⟨w.heap.size + 1, 0, none⟩ = some (.string ⟨#[]⟩) ∧ w'.cell? ⟨w.heap.size + 1, 1, none⟩ = some (.slice none 0 0)) := fun w' g => ⟨g, (two_pairs g).2⟩
  have HB : Hid (∀ w', Gr w w' → Boxes w' (some ⟨g, o, none⟩) bs) := fun w' g => boxes_gr ha g
  have G0 := Gr.refl ((w.alloc (.cells #[.string s, .slice (some ⟨g, o, none⟩) bs.length cap] 25)).alloc (.cells #[.string ⟨#[]⟩, .slice none 0 0] 25))
  go_enter Try.func87, Try.ntmps87
  go_upto_region 1 with fail
  have HO : Hid ((((w.alloc (.cells #[.string s, .slice (some ⟨g, o, none⟩) bs.length cap] 25)).alloc (.cells #[.string ⟨#[]⟩, .slice none 0 0] 25)).alloc (.cells #[] 36)).drew.ownsRow (w.heap.size + 1 + 1) 36 6 (.slice (some ⟨w.heap.size + 1 + 1, 0, none⟩) 0 0) 0 []) := by
    refine ⟨rfl, .inr ⟨w.heap.size + 1 + 1, 0, #[], rfl, Nat.le_refl _, ?_, Nat.le_refl _, by unfold maxLen; omega, rfl, rfl⟩⟩
    have e0 : ((w.alloc (.cells #[.string s, .slice (some ⟨g, o, none⟩) bs.length cap] 25)).alloc (.cells #[.string ⟨#[]⟩, .slice none 0 0] 25)).heap.size = w.heap.size + 1 + 1 := by simp
    show (Array.push ((w.alloc (.cells #[.string s, .slice (some ⟨g, o, none⟩) bs.length cap] 25)).alloc (.cells #[.string ⟨#[]⟩, .slice none 0 0] 25)).heap _)[w.heap.size + 1 + 1]? = _
    rw [← e0]
    exact Array.getElem?_push_size
  have K1 : Hid (∀ w', Gr (w.alloc (.cells #[.string s, .slice (some ⟨g, o, none⟩) bs.length cap] 25)) w' → Gr (w.alloc (.cells #[.string s, .slice (some ⟨g, o, none⟩) bs.length cap] 25)) w' ∧ w'.cell? ⟨w.heap.size, 0, none⟩ = some (.string s) ∧ w'.cell? ⟨w.heap.size, 1, none⟩ = some (.slice (some ⟨g, o, none⟩) bs.length cap)) := fun w' g => ⟨g, (new_pair g).2⟩
  have G1 := (Gr.refl (w.alloc (.cells #[.string s, .slice (some ⟨g, o, none⟩) bs.length cap] 25))).alloc (.cells #[.string ⟨#[]⟩, .slice none 0 0] 25)
  go_region_held3 (fun w' => Gr (w.alloc (.cells #[.string s, .slice (some ⟨g, o, none⟩) bs.length cap] 25)) w' ∧ w'.cell? ⟨w.heap.size, 0, none⟩ = some (.string s) ∧ w'.cell? ⟨w.heap.size, 1, none⟩ = some (.slice (some ⟨g, o, none⟩) bs.length cap))
    ((refine K1.out _ ?_; repeat (first | with_reducible exact G1 | with_reducible assumption | with_reducible exact And.left (by assumption) | with_reducible refine Gr.drew ?_ | with_reducible refine Gr.alloc ?_ _ | refine Gr.setCell ?_ (by simp) _)))
    ((refine step_append_own rfl (.tmp 5) (.tmp 7) 23 rfl (w.heap.size + 1 + 1) 36 i0 _ 6 48 Try.underlying23 hi hz0 hz1 hz2 rfl (by decide) _ _ _ (by simp [Act.eval]) HO.out ⟨g, o, none⟩ bs.length cap (flat bs) (by simp [Act.eval]) (flat_len _) (boxes_flat (HB.out _ (GG.trans ((Gr.refl _).alloc _).drew))) (flat_one _) (by unfold maxLen; omega) (by omega) (by simp) ?_; intro v' wa hown' hgrow; obtain ⟨av', cv', hav'⟩ := owns_form hown'; subst hav'; have hbl := Below.grown (Below.refl (w.heap.size + 1 + 1) _) hgrow (by simp) (owns_block HO.out); have gwa : Gr (w.alloc (.cells #[.string s, .slice (some ⟨g, o, none⟩) bs.length cap] 25)) wa := Below.grown (((Gr.refl _).alloc _).alloc _).drew hgrow (by simp) (fun z hz => by have := owns_block HO.out z hz; simp; omega); have c0 := hbl.cell (p := ⟨w.heap.size + 1, 0, none⟩) (by simp); have c1 := hbl.cell (p := ⟨w.heap.size + 1, 1, none⟩) (by simp); have f0 := hbl.frozen (p := ⟨w.heap.size + 1, 0, none⟩) (by simp); have f1 := hbl.frozen (p := ⟨w.heap.size + 1, 1, none⟩) (by simp)))
  simp only [Nat.zero_add, List.nil_append] at hown'
  have HL : OwnL ((w.alloc (.cells #[.string s, .slice (some ⟨g, o, none⟩) bs.length cap] 25)).alloc (.cells #[.string ⟨#[]⟩, .slice none 0 0] 25)) wa (.slice av' bs.length cv') bs := by
    obtain ⟨a1, c1', hv, hr1, hb1⟩ := owns_boxes rfl hown'
    exact ⟨a1, c1', hv, fun g o sp e => by obtain ⟨h0, h1, h2, h3, h4⟩ := hr1 g o sp e; exact ⟨h0, h1, by simp; omega, h3, h4⟩, hb1⟩
  have HF : Hid (OwnL w ((wa.setCell ⟨w.heap.size + 1, 0, none⟩ (.string s)).setCell ⟨w.heap.size + 1, 1, none⟩ (.slice av' bs.length cv')) (.slice av' bs.length cv') bs) := ownL_old (ownL_set (ownL_set HL _ _ (by simp)) _ _ (by simp)) GG.size
  have HO2 : Hid (((wa.setCell ⟨w.heap.size + 1, 0, none⟩ (.string s)).setCell ⟨w.heap.size + 1, 1, none⟩ (.slice av' bs.length cv')).ownsRow (w.heap.size + 1 + 1) 36 6 (.slice av' bs.length cv') bs.length (flat bs)) := ownsRow_setCell_below (ownsRow_setCell_below hown' (by simp) _) (by simp) _
  have HG : Hid (Gr w ((wa.setCell ⟨w.heap.size + 1, 0, none⟩ (.string s)).setCell ⟨w.heap.size + 1, 1, none⟩ (.slice av' bs.length cv'))) := ((((Gr.refl w).alloc _).trans gwa).setCell (by dsimp only; omega) _).setCell (by dsimp only; omega) _
  clear HL hown' hgrow hbl K K1 HO HB ha
  go_wp2
  exact bodyPost_ret (v := .agg #[.string s, .slice av' bs.length cv']) (by simp [results, Try.results87, go_sem, c0, c1]) rfl ⟨⟨_, rfl, HF.out, HO2.out⟩, HG.out⟩

set_option maxRecDepth 100000 in
set_option maxHeartbeats 2000000 in
theorem copy_none (s : ByteArray) (w : World) :
    Calls Try.prog 87 #[.agg #[.string s, .slice none 0 0]] w fun e w' => (∃ v, e = .returned (.agg #[.string s, v]) ∧ OwnL w w' v [] ∧ w'.ownsRow (w.heap.size + 1 + 1) 36 6 v 0 []) ∧ Gr w w' := by
  have K1 : Hid (∀ w', Gr (w.alloc (.cells #[.string s, .slice none 0 0] 25)) w' → Gr (w.alloc (.cells #[.string s, .slice none 0 0] 25)) w' ∧ w'.cell? ⟨w.heap.size, 0, none⟩ = some (.string s) ∧ w'.cell? ⟨w.heap.size, 1, none⟩ = some (.slice none 0 0)) := fun w' g => ⟨g, (new_pair g).2⟩
  have G1 := (Gr.refl (w.alloc (.cells #[.string s, .slice none 0 0] 25))).alloc (.cells #[.string ⟨#[]⟩, .slice none 0 0] 25)
  have HON : Hid (∀ o : Obj, (((w.alloc (.cells #[.string s, .slice none 0 0] 25)).alloc o).alloc (.cells #[] 36)).drew.ownsRow (w.heap.size + 1 + 1) 36 6 (.slice (some ⟨w.heap.size + 1 + 1, 0, none⟩) 0 0) 0 []) := fun o => by
    refine ⟨rfl, .inr ⟨w.heap.size + 1 + 1, 0, #[], rfl, Nat.le_refl _, ?_, Nat.le_refl _, by unfold maxLen; omega, rfl, rfl⟩⟩
    have e0 : ((w.alloc (.cells #[.string s, .slice none 0 0] 25)).alloc o).heap.size = w.heap.size + 1 + 1 := by simp
    show (Array.push ((w.alloc (.cells #[.string s, .slice none 0 0] 25)).alloc o).heap _)[w.heap.size + 1 + 1]? = _
    rw [← e0]
    exact Array.getElem?_push_size
  go_enter Try.func87, Try.ntmps87
  go_upto_region 1 with fail
  go_region_held3 (fun w' => Gr (w.alloc (.cells #[.string s, .slice none 0 0] 25)) w' ∧ w'.cell? ⟨w.heap.size, 0, none⟩ = some (.string s) ∧ w'.cell? ⟨w.heap.size, 1, none⟩ = some (.slice none 0 0))
    ((refine K1.out _ ?_; repeat (first | with_reducible exact G1 | with_reducible exact Gr.refl _ | with_reducible assumption | with_reducible exact And.left (by assumption) | with_reducible refine Gr.drew ?_ | with_reducible refine Gr.alloc ?_ _ | refine Gr.setCell ?_ (by simp) _)))
    (fail)
  go_wp2
  exact bodyPost_ret (v := .agg #[.string s, .slice (some ⟨w.heap.size + 1 + 1, 0, none⟩) 0 0]) (by simp [results, Try.results87, go_sem]) rfl ⟨⟨_, rfl, ⟨some ⟨w.heap.size + 1 + 1, 0, none⟩, 0, rfl, fun g o sp e => by cases e; exact ⟨rfl, rfl, by omega, by simp, fun k hk => by simp at hk⟩, fun k hk => by simp at hk⟩, HON.out _⟩, ((((Gr.refl w).alloc _).alloc _).alloc _).drew⟩

theorem copy_any (s : ByteArray) (v : Value) (bs : List Bx) (w : World) (hv : (v = .slice none 0 0 ∧ bs = []) ∨ ∃ g o c, v = .slice (some ⟨g, o, none⟩) bs.length c ∧ Boxes w (some ⟨g, o, none⟩) bs) (hn : bs.length ≤ 1000) :
    Calls Try.prog 87 #[.agg #[.string s, v]] w fun e w' => (∃ v, e = .returned (.agg #[.string s, v]) ∧ OwnL w w' v bs ∧ w'.ownsRow (w.heap.size + 1 + 1) 36 6 v bs.length (flat bs)) ∧ Gr w w' := by
  rcases hv with ⟨rfl, rfl⟩ | ⟨g, o, c, rfl, hb⟩
  · exact copy_none s w
  · exact copy_some s g o c bs w hb hn
end Go.Proofs.Ytpdcgjkfilohcaa
