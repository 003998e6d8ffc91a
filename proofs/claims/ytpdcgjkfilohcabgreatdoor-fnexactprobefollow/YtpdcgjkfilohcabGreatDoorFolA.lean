import Derived.Test.YtpdcgjkfilohcabGreatDoorLawIdx
import Derived.Test.YtpdcgjkfilohcabGreatDoorIdxVW
namespace Go.Proofs.YtpdcgjkfilohcabGreatDoor
open Go.RowKit Go.Sort Go.Maps
attribute [local go_sem ↓] Go.wp_at_zero Go.wp_at_succ
set_option linter.unusedSimpArgs false
set_option linter.unusedVariables false

/-! The index behind an event. -/

theorem idxIs_nil : IdxIs [] [] := by
  have h : skyB [] = true := by decide
  unfold IdxIs
  rw [h]
  exact idx_nil
/-- How far the marks go. -/
def sumX (cs : List Cx) : Nat := (cs.map fun c => c.2.2.length).sum
theorem endX_sum : ∀ (k : Int) (cs : List Cx), endX k cs = k + 2 * cs.length + 6 * sumX cs
  | k, [] => by simp [endX, sumX]
  | k, c :: cs => by
    rw [endX, endX_sum]
    simp only [nextC, sumX, List.map_cons, List.sum_cons, List.length_cons]
    omega
theorem sumX_like {ds : List Cx} {cs : List Ce} (h : idxOf ds = ceIdx cs) : ds.length = cs.length ∧ sumX ds = sumTo cs cs.length := by
  refine ⟨by rw [← idx_len, h]; simp [ceIdx], ?_⟩
  have e1 : sumX ds = ((idxOf ds).map fun c => c.2.length).sum := by simp [sumX, idxOf, Function.comp_def]
  have e2 : sumTo cs cs.length = ((ceIdx cs).map fun c => c.2.length).sum := by simp [sumTo, ceIdx, Function.comp_def]
  rw [e1, e2, h]
theorem mem_sum : ∀ {l : List Nat} {x : Nat}, x ∈ l → x ≤ l.sum
  | y :: l, x, h => by
    rw [List.sum_cons]
    rcases List.mem_cons.1 h with rfl | h
    · omega
    · have := mem_sum h
      omega
theorem smallX_like {ds : List Cx} {cs : List Ce} (h : idxOf ds = ceIdx cs) (hS : SmallC cs) : SmallX ds ∧ endX 1 ds ≤ 100000000 ∧ 1 ≤ endX 1 ds := by
  obtain ⟨h1, h2⟩ := sumX_like h
  have h3 : ∀ c ∈ ds, c.2.2.length ≤ sumX ds := fun c hc => by
    unfold sumX
    exact mem_sum (List.mem_map.2 ⟨c, hc, rfl⟩)
  unfold SmallC at hS
  have h4 := endX_sum 1 ds
  exact ⟨⟨by omega, fun c hc => by have := h3 c hc; omega⟩, by omega, by omega⟩

set_option maxHeartbeats 1000000 in
theorem specFollow_of (xv : Value) (a : Option Addr) (cap : Nat) (us : List Tb) (d : Bool) (s : ByteArray) (q tc : Nat) (bs : List Bx) (RL : List Tb) (RC : Int) (w : World) (h1 : RC = 1 → RL = []) (hS : Small RL)
    (hH : ∀ w', Gr w w' → Calls Tryz.prog 24 #[.slice a us.length cap, .agg #[.bool d, .string s, .slice (some ⟨q, 0, none⟩) bs.length tc]] w' fun e w'' => HapQ RL RC w'.heap.size e w'' ∧ Gr w' w'') :
    Calls Tryz.prog 8 #[.agg #[xv], .slice a us.length cap, .agg #[.bool d, .string s, .slice (some ⟨q, 0, none⟩) bs.length tc]] w fun e w' => XQ RL w.heap.size e w' ∧ Gr w w' := by
  have GW : Gr w (((w.alloc (.cells #[xv] 36)).alloc (.cells #[.bool d, .string s, .slice (some ⟨q, 0, none⟩) bs.length tc] 45)).alloc (.cells #[.slice none 0 0] 36)) := (((Gr.refl w).alloc _).alloc _).alloc _
  have HH := hidE (hH _ GW)
  have HGW := hidE GW
  have HR : Hid (((w.alloc (.cells #[xv] 36)).alloc (.cells #[.bool d, .string s, .slice (some ⟨q, 0, none⟩) bs.length tc] 45)).alloc (.cells #[.slice none 0 0] 36) |>.heap[w.heap.size + 1 + 1]? = some (.cells #[.slice none 0 0] 36 (0, 0))) := by
    have := World.alloc_heap_new ((w.alloc (.cells #[xv] 36)).alloc (.cells #[.bool d, .string s, .slice (some ⟨q, 0, none⟩) bs.length tc] 45)) (.cells #[.slice none 0 0] 36)
    show _ = _
    simpa only [World.size_alloc] using this
  clear hH GW
  go_enter Tryz.func8, Tryz.ntmps8
  go_wp2_with fail
  (with_reducible refine Calls.mono HH.out ?_)
  rintro e w1 ⟨⟨a1, c1, vs, rfl, hO, hL⟩, g1⟩
  have r2 : w1.heap[w.heap.size + 1 + 1]? = some (.cells #[.slice none 0 0] 36 (0, 0)) := (Below.block g1 _ (by simp)).trans HR.out
  by_cases hc : RC = 1
  · obtain rfl := h1 hc
    subst hc
    have x0 : w1.cell? ⟨w.heap.size + 1 + 1, 0, none⟩ = some (.slice none 0 0) := by unfold World.cell?; rw [r2]; rfl
    have f0 : w1.frozen? ⟨w.heap.size + 1 + 1, 0, none⟩ = false := by unfold World.frozen?; rw [r2]; rfl
    have HG : Hid (Gr w (w1.setCell ⟨w.heap.size + 1 + 1, 0, none⟩ (.slice none 0 0))) := (HGW.out.trans g1).setCell (by dsimp only; omega) _
    clear hO hL r2
    go_wp2
    exact bodyPost_ret (v := .agg #[.slice none 0 0]) (by simp [results, Tryz.results8, go_sem, x0]) rfl ⟨⟨_, [], rfl, ownX_nil _ _, idxIs_nil⟩, HG.out⟩
  · have hcb : (RC == 1) = false := by simp [hc]
    have HI := hidE (specIndexOf_any a1 c1 vs w1 (own_tub hO) (small_like hL hS))
    have HL := hidE hL
    clear hO hL hc
    go_wp2_with fail
    (with_reducible refine Calls.mono HI.out ?_)
    rintro e w2 ⟨⟨v, cs, rfl, hX, hI⟩, g2⟩
    obtain ⟨av, cv, ev⟩ := row_form hX.row
    subst ev
    have r3 : w2.heap[w.heap.size + 1 + 1]? = some (.cells #[.slice none 0 0] 36 (0, 0)) := (Below.block g2 _ (Array.getElem?_eq_some_iff.1 r2).1).trans r2
    have x0 : w2.cell? ⟨w.heap.size + 1 + 1, 0, none⟩ = some (.slice none 0 0) := by unfold World.cell?; rw [r3]; rfl
    have f0 : w2.frozen? ⟨w.heap.size + 1 + 1, 0, none⟩ = false := by unfold World.frozen?; rw [r3]; rfl
    have hle : w.heap.size ≤ w1.heap.size := (HGW.out.trans g1).size
    have HF : Hid (OwnX w.heap.size (w2.setCell ⟨w.heap.size + 1 + 1, 0, none⟩ (.slice av cs.length cv)) (.slice av cs.length cv) cs ∧ Gr w (w2.setCell ⟨w.heap.size + 1 + 1, 0, none⟩ (.slice av cs.length cv))) := by
      have h8 := ownX_box hX ⟨_, _, r3⟩ (.slice av cs.length cv)
      exact ⟨⟨own_lo h8.row hle, fun c hc => own_lo (h8.slots c hc) hle, h8.apart⟩, ((HGW.out.trans g1).trans g2).setCell (by dsimp only; omega) _⟩
    have HI2 := hidE (idxIs_like HL.out hI)
    clear hX hI r2 r3 g1 g2
    go_wp2
    exact bodyPost_ret (v := .agg #[.slice av cs.length cv]) (by simp [results, Tryz.results8, go_sem, x0]) rfl ⟨⟨_, cs, rfl, HF.out.1, HI2.out⟩, HF.out.2⟩
set_option maxHeartbeats 1000000 in
theorem implFollow_of (xv : Value) (a : Option Addr) (cap : Nat) (us : List Tb) (d : Bool) (s : ByteArray) (q tc : Nat) (bs : List Bx) (RL : List Tb) (RC : Int) (w : World) (hS : Small RL)
    (hH : ∀ w', Gr w w' → Calls Tryz.prog 28 #[.slice a us.length cap, .agg #[.bool d, .string s, .slice (some ⟨q, 0, none⟩) bs.length tc]] w' fun e w'' => HapQ RL RC w'.heap.size e w'' ∧ Gr w' w'') :
    Calls Tryz.prog 12 #[.agg #[xv], .slice a us.length cap, .agg #[.bool d, .string s, .slice (some ⟨q, 0, none⟩) bs.length tc]] w fun e w' => XQ RL w.heap.size e w' ∧ Gr w w' := by
  have GW : Gr w (((w.alloc (.cells #[xv] 36)).alloc (.cells #[.bool d, .string s, .slice (some ⟨q, 0, none⟩) bs.length tc] 45)).alloc (.cells #[.slice none 0 0] 36)) := (((Gr.refl w).alloc _).alloc _).alloc _
  have HH := hidE (hH _ GW)
  have HGW := hidE GW
  have HR : Hid (((w.alloc (.cells #[xv] 36)).alloc (.cells #[.bool d, .string s, .slice (some ⟨q, 0, none⟩) bs.length tc] 45)).alloc (.cells #[.slice none 0 0] 36) |>.heap[w.heap.size + 1 + 1]? = some (.cells #[.slice none 0 0] 36 (0, 0))) := by
    have := World.alloc_heap_new ((w.alloc (.cells #[xv] 36)).alloc (.cells #[.bool d, .string s, .slice (some ⟨q, 0, none⟩) bs.length tc] 45)) (.cells #[.slice none 0 0] 36)
    show _ = _
    simpa only [World.size_alloc] using this
  clear hH GW
  go_enter Tryz.func12, Tryz.ntmps12
  go_wp2_with fail
  (with_reducible refine Calls.mono HH.out ?_)
  rintro e w1 ⟨⟨a1, c1, vs, rfl, hO, hL⟩, g1⟩
  have r2 : w1.heap[w.heap.size + 1 + 1]? = some (.cells #[.slice none 0 0] 36 (0, 0)) := (Below.block g1 _ (by simp)).trans HR.out
  have HI := hidE (implIndexOf_any a1 c1 vs w1 (own_tub hO) (small_like hL hS))
  have HL := hidE hL
  clear hO hL
  go_wp2_with fail
  (with_reducible refine Calls.mono HI.out ?_)
  rintro e w2 ⟨⟨v, cs, rfl, hX, hI⟩, g2⟩
  obtain ⟨av, cv, ev⟩ := row_form hX.row
  subst ev
  have r3 : w2.heap[w.heap.size + 1 + 1]? = some (.cells #[.slice none 0 0] 36 (0, 0)) := (Below.block g2 _ (Array.getElem?_eq_some_iff.1 r2).1).trans r2
  have x0 : w2.cell? ⟨w.heap.size + 1 + 1, 0, none⟩ = some (.slice none 0 0) := by unfold World.cell?; rw [r3]; rfl
  have f0 : w2.frozen? ⟨w.heap.size + 1 + 1, 0, none⟩ = false := by unfold World.frozen?; rw [r3]; rfl
  have hle : w.heap.size ≤ w1.heap.size := (HGW.out.trans g1).size
  have HF : Hid (OwnX w.heap.size (w2.setCell ⟨w.heap.size + 1 + 1, 0, none⟩ (.slice av cs.length cv)) (.slice av cs.length cv) cs ∧ Gr w (w2.setCell ⟨w.heap.size + 1 + 1, 0, none⟩ (.slice av cs.length cv))) := by
    have h8 := ownX_box hX ⟨_, _, r3⟩ (.slice av cs.length cv)
    exact ⟨⟨own_lo h8.row hle, fun c hc => own_lo (h8.slots c hc) hle, h8.apart⟩, ((HGW.out.trans g1).trans g2).setCell (by dsimp only; omega) _⟩
  have HI2 := hidE (idxIs_like HL.out hI)
  clear hX hI r2 r3 g1 g2
  go_wp2
  exact bodyPost_ret (v := .agg #[.slice av cs.length cv]) (by simp [results, Tryz.results12, go_sem, x0]) rfl ⟨⟨_, cs, rfl, HF.out.1, HI2.out⟩, HF.out.2⟩
end Go.Proofs.YtpdcgjkfilohcabGreatDoor
